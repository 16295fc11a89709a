/-
  The walks of 'are they the same': the document's SameList. The walks of 'are they the same': the document's, of programs. The walk of the document's printed conditions.
-/
import Derived.Test.YtdlchhimkelinaaGreatDoorP10
import Derived.Deep.RegionHeld3
import Derived.Test.YtdlchhimkelinaaGreatDoorP12
import Derived.Test.YtdlchhimkelinaaGreatDoorP13
set_option maxHeartbeats 6400000
set_option maxRecDepth 100000
namespace Go.Proofs.YtdlchhimkelinaaGreatDoor
open Go.RowKit Go.Sort
/-- In a region that draws its order and reads quietly: a struct's value out of the middle of a block. -/
theorem wpQuiet_load {P : Program} {ops : Array Oper} {C : World → Prop} {Q : Act → Prop} {a : Act} {o : Oper} {rest : List Oper} (hw : Region.wanted o (yielded ops a.tmps) = true) (ty : TypeId) (x : Operand) (ho : o.op = .load ty x)
  (b q : Nat) (hx : a.eval x = .pointer (some ⟨b, q, none⟩)) (cs : Array Value) (d : TypeDesc) (hc : ∀ w, C w → w.rangeAt b q cs.toList) (hu : P.underlying ty = some d) (hd : d.isRow = true) (hi : (P.info? ty).map (·.size) = some cs.size)
  (h : wpQuiet P ops C Q rest (a.put o.dst (.agg cs))) : wpQuiet P ops C Q (o :: rest) a := by
 refine BigFrame.wpQuiet_want hw fun K hK => ⟨.agg cs, fun w hw' => ?_, hK _ h⟩
 unfold Oper.quietAt execOp
 simp only [ho, hx, Instr.loadAt, Instr.sureAddr, Sem.run_bind, Sem.run_pure, Result.andThen_ok, run_loadVar_mid w b q ty cs.toList d (hc w hw') hu hd (by simpa using hi)]
 exact ⟨rfl, by simp⟩
theorem refList_one (sl : SL) (hP : sl.each okRL) : okRL sl := by
 intro sm p1 c1 p2 c2 w hs1 hs2
 have hOk : ∀ x ∈ sl.items, okRL x.t ∧ okRL x.e := SL.each_items hP
 have h1 := Lay.of_sLies hs1
 have h2 := Lay.of_sLies hs2
 rw [sameSL_items, ← SL.items_len, ← SL.items_len]
 clear hP hs1 hs2
 generalize sl.items = l at *
 generalize sm.items = m at *
 obtain ⟨hl1, h1⟩ := h1
 obtain ⟨hl2, h2⟩ := h2
 have H1 := hdn h1
 have H2 := hdn h2
 have HO := hdn hOk
 clear h1 h2 hOk
 by_cases he : l.length = m.length
 ·have heq : ((l.length : Int) != (m.length : Int)) = false := by rw [he]; simp
  have HE := hdn he
  clear he
  go_enter Tryz.func28, Tryz.ntmps28
  go_wp2_with fail
  clear heq
  go_loopw [5] (fun i wr => ∃ k : Nat, i = .int .i64 k ∧ k ≤ l.length ∧ Hid (sameL sameIt (l.take k) (m.take k) = true) ∧ Hid (Below w.heap.size w wr)) (fun i _ => l.length - (intOf i).toNat)
  case atStart => exact ⟨0, rfl, Nat.zero_le _, hdn rfl, hdn (Below.refl _ _)⟩
  case round =>
   obtain ⟨k, rfl, hk, HT, HB⟩ := hrel
   by_cases hkl0 : k < l.length
   ·have hkm : k < m.length := by have := HE.out; omega
    have hkl := hkm
    obtain ⟨b2, o2, rfl, h2x⟩ : ∃ b o, p2 = some ⟨b, o, none⟩ ∧ ∀ k x, m[k]? = some x → w.rangeAt b (o + k * 48) (It.cells x) ∧ itLies w x := by
     rcases H2.out with h | h
     ·rw [h] at hkl; simp at hkl
     ·exact h
    clear hkl
    have hkl := hkl0
    obtain ⟨b1, o1, rfl, h1x⟩ : ∃ b o, p1 = some ⟨b, o, none⟩ ∧ ∀ k x, l[k]? = some x → w.rangeAt b (o + k * 48) (It.cells x) ∧ itLies w x := by
     rcases H1.out with h | h
     ·rw [h] at hkl; simp at hkl
     ·exact h
    have hx1 := h1x k l[k] (List.getElem?_eq_getElem hkl)
    have hy1 := h2x k m[k] (List.getElem?_eq_getElem hkm)
    have hok := HO.out l[k] (List.getElem_mem _)
    have hst := sameL_step (f := sameIt) k hkl hkm
    have hat := sameL_at (f := sameIt) k hkl hkm
    have hk0 : (0 : Int) ≤ (k : Int) := Int.natCast_nonneg _
    have hk1 : (k : Int) < (l.length : Int) := by omega
    have hk2 : (k : Int) < (m.length : Int) := by omega
    generalize l[k] = xk at hx1 hst hat hok
    generalize m[k] = yk at hy1 hst hat
    obtain ⟨cx, hcx⟩ : ∃ cx, cx = xk.cells.toArray := ⟨_, rfl⟩
    obtain ⟨cy, hcy⟩ : ∃ cy, cy = yk.cells.toArray := ⟨_, rfl⟩
    have HRX : Hid (∀ w', (∃ p : Regrown, w' = grow (redrawn wr p.d) p.os) → w'.rangeAt b1 (o1 + k * 48) cx.toList) := hdn (fun w' hw' => by
     obtain ⟨p, rfl⟩ := hw'
     rw [hcx]; exact rangeAt_below (rangeAt_below hx1.1 HB.out) (below_regrown _ _ _))
    have HRY : Hid (∀ w', (∃ p : Regrown, w' = grow (redrawn wr p.d) p.os) → w'.rangeAt b2 (o2 + k * 48) cy.toList) := hdn (fun w' hw' => by
     obtain ⟨p, rfl⟩ := hw'
     rw [hcy]; exact rangeAt_below (rangeAt_below hy1.1 HB.out) (below_regrown _ _ _))
    have HSX : Hid ((Tryz.prog.info? 54).map (·.size) = some cx.size) := hdn (by rw [hcx]; exact size57)
    have HSY : Hid ((Tryz.prog.info? 54).map (·.size) = some cy.size) := hdn (by rw [hcy]; exact size57)
    have CV : ∀ dd os, Calls Tryz.prog 55 #[.agg cx, .agg cy] (grow (redrawn wr dd) os) fun en w'' => en = .returned (.bool (sameIt xk yk)) ∧ ∃ p : Regrown, w'' = grow (redrawn wr p.d) p.os :=
     fun dd os => Calls.regrown_of (refStmt_any xk yk hok.1 hok.2 cx cy hcx hcy _ (itLies_below (itLies_below hx1.2 HB.out) (below_regrown _ _ _)) (itLies_below (itLies_below hy1.2 HB.out) (below_regrown _ _ _)))
    generalize sameIt xk yk = vk at hst hat CV
    have HST := hdn hst
    have HAT := hdn hat
    clear h1x h2x hst hat hkl0 hx1 hy1 hok hcx hcy
    cases vk
    ·go_wp2_with fail
     refine wp_region_quiet_below (by kernel_rfl) (by kernel_rfl) ?_
     repeat (first | ((with_reducible show wpQuiet _ _ _ _ (Oper.mk (some 20) _ _ _ _ _ :: _) _); refine wpQuiet_load rfl 54 (.tmp 19) rfl b1 (o1 + k * 48) rfl cx _ HRX.out Tryz.underlying54 rfl HSX.out ?_; simp only [Act.put, List.setIfInBounds_toArray, List.set_cons_succ, List.set_cons_zero]) | ((with_reducible show wpQuiet _ _ _ _ (Oper.mk (some 24) _ _ _ _ _ :: _) _); refine wpQuiet_load rfl 54 (.tmp 23) rfl b2 (o2 + k * 48) rfl cy _ HRY.out Tryz.underlying54 rfl HSY.out ?_; simp only [Act.put, List.setIfInBounds_toArray, List.set_cons_succ, List.set_cons_zero]) | go_big_quiet_step (with_reducible exact CV _ _))
     refine wpQuiet_nil ?_
     intro _ hw'
     obtain ⟨⟨dq, osq⟩, hw''⟩ := hw'
     subst hw''
     have HB3 := hdn (below_regrown wr dq osq)
     generalize grow (redrawn wr dq) osq = w3 at HB3 ⊢
     go_wp2_with fail
     go_ret
     exact ⟨ret_bool (by rw [HAT.out (by first | rfl | trivial)]), HB.out.trans (HB3.out.mono HB.out.size)⟩
    ·go_wp2_with fail
     refine wp_region_quiet_below (by kernel_rfl) (by kernel_rfl) ?_
     repeat (first | ((with_reducible show wpQuiet _ _ _ _ (Oper.mk (some 20) _ _ _ _ _ :: _) _); refine wpQuiet_load rfl 54 (.tmp 19) rfl b1 (o1 + k * 48) rfl cx _ HRX.out Tryz.underlying54 rfl HSX.out ?_; simp only [Act.put, List.setIfInBounds_toArray, List.set_cons_succ, List.set_cons_zero]) | ((with_reducible show wpQuiet _ _ _ _ (Oper.mk (some 24) _ _ _ _ _ :: _) _); refine wpQuiet_load rfl 54 (.tmp 23) rfl b2 (o2 + k * 48) rfl cy _ HRY.out Tryz.underlying54 rfl HSY.out ?_; simp only [Act.put, List.setIfInBounds_toArray, List.set_cons_succ, List.set_cons_zero]) | go_big_quiet_step (with_reducible exact CV _ _))
     refine wpQuiet_nil ?_
     intro _ hw'
     obtain ⟨⟨dq, osq⟩, hw''⟩ := hw'
     subst hw''
     have HB3 := hdn (below_regrown wr dq osq)
     generalize grow (redrawn wr dq) osq = w3 at HB3 ⊢
     go_wp2_with fail
     go_roundw
     case rel => exact ⟨k + 1, by go_num, by omega, hdn (by rw [HST.out, HT.out]; rfl), hdn (HB.out.trans (HB3.out.mono HB.out.size))⟩
     case measure => simp [intOf]; omega
   ·have HF : Hid (sameL sameIt l m = true) := hdn (by
     have := HT.out
     rwa [List.take_of_length_le (by omega), List.take_of_length_le (by have := HE.out; omega)] at this)
    go_wp2_with fail
    go_ret
    exact ⟨ret_bool (by rw [HF.out]), HB.out⟩
 ·have heq : ((l.length : Int) != (m.length : Int)) = true := by
   rw [bne_iff_ne]; intro e; exact he (by omega)
  rw [sameL_len he]
  clear he
  go_enter Tryz.func28, Tryz.ntmps28
  go_wp2_with fail
  go_ret
  exact ⟨rfl, Below.refl _ _⟩
theorem refList_any (l : SL) : okRL l := (SL.all refList_one l).1
end Go.Proofs.YtdlchhimkelinaaGreatDoor
namespace Go.Proofs.YtdlchhimkelinaaGreatDoor
open Go.RowKit Go.Sort
theorem refProgram_any (x y : Pg) (w : World) (rx : pgLies w x) (ry : pgLies w y) :
  Calls Tryz.prog 11 #[.agg #[.slice x.structs.p x.structs.l.length x.structs.cap, .slice x.globals.p x.globals.l.length x.globals.cap, .slice x.procs.p x.procs.l.length x.procs.cap], .agg #[.slice y.structs.p y.structs.l.length y.structs.cap, .slice y.globals.p y.globals.l.length y.globals.cap, .slice y.procs.p y.procs.l.length y.procs.cap]] w fun en w' => en = .returned (.bool (samePg x y)) ∧ Below w.heap.size w w' := by
 have h1 : Lay 3 Sr.cells srLies w x.structs.p x.structs.l := Lay.of_sl (srs_of rx.1) (by decide)
 have h2 : Lay 3 Sr.cells srLies w y.structs.p y.structs.l := Lay.of_sl (srs_of ry.1) (by decide)
 have h3 : Lay 6 Pc.cells pcLies w x.procs.p x.procs.l := Lay.of_sl rx.2.2 (by decide)
 have h4 : Lay 6 Pc.cells pcLies w y.procs.p y.procs.l := Lay.of_sl ry.2.2 (by decide)
 have hG1 : Lay 3 Dc.cells triv w x.globals.p x.globals.l := Lay.of_sl (decls_of rx.2.1) (by decide)
 have hG2 : Lay 3 Dc.cells triv w y.globals.p y.globals.l := Lay.of_sl (decls_of ry.2.1) (by decide)
 show Calls _ _ _ _ (fun en w' => en = .returned (.bool (sameL sameSr x.structs.l y.structs.l && (sameL sameDc x.globals.l y.globals.l && sameL samePc x.procs.l y.procs.l))) ∧ Below w.heap.size w w')
 obtain ⟨hl1, h1⟩ := h1
 obtain ⟨hl2, h2⟩ := h2
 obtain ⟨hl3, h3⟩ := h3
 obtain ⟨hl4, h4⟩ := h4
 clear rx ry
 generalize x.structs.l = l at *
 generalize y.structs.l = m at *
 generalize x.structs.p = p1 at *
 generalize y.structs.p = p2 at *
 generalize x.structs.cap = c1 at *
 generalize y.structs.cap = c2 at *
 generalize x.procs.l = r at *
 generalize y.procs.l = s at *
 generalize x.procs.p = q1 at *
 generalize y.procs.p = q2 at *
 generalize x.procs.cap = d1 at *
 generalize y.procs.cap = d2 at *
 generalize x.globals.l = gl at *
 generalize y.globals.l = hl at *
 generalize x.globals.p = gp at *
 generalize y.globals.p = hp at *
 generalize x.globals.cap = gc at *
 generalize y.globals.cap = hc at *
 have ha : Below w.heap.size w ((w.alloc (.cells #[.slice p1 l.length c1, .slice gp gl.length gc, .slice q1 r.length d1] 26)).alloc (.cells #[.slice p2 m.length c2, .slice hp hl.length hc, .slice q2 s.length d2] 26)) := ((Below.refl _ _).alloc (Nat.le_refl _) _).alloc (by simp) _
 have DG : Calls Tryz.prog 27 #[.slice gp gl.length gc, .slice hp hl.length hc] ((w.alloc (.cells #[.slice p1 l.length c1, .slice gp gl.length gc, .slice q1 r.length d1] 26)).alloc (.cells #[.slice p2 m.length c2, .slice hp hl.length hc, .slice q2 s.length d2] 26)) fun en w'' => en = .returned (.bool (sameL sameDc gl hl)) ∧ Below ((w.alloc (.cells #[.slice p1 l.length c1, .slice gp gl.length gc, .slice q1 r.length d1] 26)).alloc (.cells #[.slice p2 m.length c2, .slice hp hl.length hc, .slice q2 s.length d2] 26)).heap.size ((w.alloc (.cells #[.slice p1 l.length c1, .slice gp gl.length gc, .slice q1 r.length d1] 26)).alloc (.cells #[.slice p2 m.length c2, .slice hp hl.length hc, .slice q2 s.length d2] 26)) w'' :=
  refDecls_any gl hl gp hp gc hc ((w.alloc (.cells #[.slice p1 l.length c1, .slice gp gl.length gc, .slice q1 r.length d1] 26)).alloc (.cells #[.slice p2 m.length c2, .slice hp hl.length hc, .slice q2 s.length d2] 26)) (hG1.below ha (fun _ _ => trivial)) (hG2.below ha (fun _ _ => trivial))
 have K : ∀ w', Below ((w.alloc (.cells #[.slice p1 l.length c1, .slice gp gl.length gc, .slice q1 r.length d1] 26)).alloc (.cells #[.slice p2 m.length c2, .slice hp hl.length hc, .slice q2 s.length d2] 26)).heap.size ((w.alloc (.cells #[.slice p1 l.length c1, .slice gp gl.length gc, .slice q1 r.length d1] 26)).alloc (.cells #[.slice p2 m.length c2, .slice hp hl.length hc, .slice q2 s.length d2] 26)) w' → w'.cell? ⟨w.heap.size, 0, none⟩ = some (.slice p1 l.length c1) ∧ w'.cell? ⟨w.heap.size + 1, 0, none⟩ = some (.slice p2 m.length c2) ∧ w'.cell? ⟨w.heap.size, 2, none⟩ = some (.slice q1 r.length d1) ∧ w'.cell? ⟨w.heap.size + 1, 2, none⟩ = some (.slice q2 s.length d2) := fun w' hb =>
  ⟨(hb.cell (p := ⟨w.heap.size, 0, none⟩) (by simp; omega)).trans (cell_of_row _ _ 0 _ _ _ (heap_alloc2_old w _ _)), (hb.cell (p := ⟨w.heap.size + 1, 0, none⟩) (by simp)).trans (cell_of_row _ _ 0 _ _ _ (heap_alloc2_new w _ _)),
  (hb.cell (p := ⟨w.heap.size, 2, none⟩) (by simp; omega)).trans (cell_of_row _ _ 2 _ _ _ (heap_alloc2_old w _ _)), (hb.cell (p := ⟨w.heap.size + 1, 2, none⟩) (by simp)).trans (cell_of_row _ _ 2 _ _ _ (heap_alloc2_new w _ _))⟩
 generalize hgv : sameL sameDc gl hl = zg at DG ⊢
 have HA := hdn ha
 have HK := hdn K
 have HDG := hdn DG
 have H1 := hdn h1
 have H2 := hdn h2
 have H3 := hdn h3
 have H4 := hdn h4
 clear ha K DG h1 h2 h3 h4 hG1 hG2 hgv
 by_cases hl1_ : l.length = m.length
 ·have hl1_q : ((l.length : Int) != (m.length : Int)) = false := by rw [hl1_]; simp
  have HL1 := hdn hl1_
  clear hl1_
  by_cases hl2_ : r.length = s.length
  ·have hl2_q : ((r.length : Int) != (s.length : Int)) = false := by rw [hl2_]; simp
   have HL2 := hdn hl2_
   clear hl2_
   cases zg
   ·go_enter Tryz.func11, Tryz.ntmps11
    go_wp2_with fail
    refine (HDG.out).mono ?_; rintro en wg ⟨rfl, hbg⟩
    have HBG := hdn (HA.out.trans (hbg.mono HA.out.size))
    clear hbg
    go_wp2_with fail
    go_ret
    exact ⟨ret_bool (by simp), HBG.out⟩
   ·go_enter Tryz.func11, Tryz.ntmps11
    go_wp2_with fail
    refine (HDG.out).mono ?_; rintro en wg ⟨rfl, hbg⟩
    have HBG := hdn hbg
    clear hbg
    go_wp2_with fail
    clear hl1_q hl2_q
    generalize ((w.alloc (.cells #[.slice p1 l.length c1, .slice gp gl.length gc, .slice q1 r.length d1] 26)).alloc (.cells #[.slice p2 m.length c2, .slice hp hl.length hc, .slice q2 s.length d2] 26)) = wA at HA HK HBG HDG ⊢
    go_loopw [5] (fun i wr => ∃ k : Nat, i = .int .i64 k ∧ k ≤ l.length ∧ Hid (sameL sameSr (l.take k) (m.take k) = true) ∧ Hid (Below wA.heap.size wA wr)) (fun i _ => l.length - (intOf i).toNat)
    case atStart => exact ⟨0, rfl, Nat.zero_le _, hdn rfl, HBG⟩
    case round =>
     obtain ⟨k, rfl, hk, HT, HB⟩ := hrel
     obtain ⟨ka, kb, kc, kd⟩ := HK.out wr HB.out
     have HBW : Hid (Below w.heap.size w wr) := hdn (HA.out.trans (HB.out.mono HA.out.size))
     by_cases hkl0 : k < l.length
     ·have hkm : k < m.length := by have := HL1.out; omega
      have hkl := hkm
      obtain ⟨b2, o2, rfl, h2x⟩ : ∃ b o, p2 = some ⟨b, o, none⟩ ∧ ∀ k x, m[k]? = some x → w.rangeAt b (o + k * 3) (Sr.cells x) ∧ srLies w x := by
       rcases H2.out with h | h
       ·rw [h] at hkl; simp at hkl
       ·exact h
      clear hkl
      have hkl := hkl0
      obtain ⟨b1, o1, rfl, h1x⟩ : ∃ b o, p1 = some ⟨b, o, none⟩ ∧ ∀ k x, l[k]? = some x → w.rangeAt b (o + k * 3) (Sr.cells x) ∧ srLies w x := by
       rcases H1.out with h | h
       ·rw [h] at hkl; simp at hkl
       ·exact h
      have hx1 := h1x k l[k] (List.getElem?_eq_getElem hkl)
      have hy1 := h2x k m[k] (List.getElem?_eq_getElem hkm)
      have hst := sameL_step (f := sameSr) k hkl hkm
      have hat := sameL_at (f := sameSr) k hkl hkm
      have hk0 : (0 : Int) ≤ (k : Int) := Int.natCast_nonneg _
      have hk1 : (k : Int) < (l.length : Int) := by omega
      have hk2 : (k : Int) < (m.length : Int) := by omega
      generalize l[k] = xk at hx1 hst hat
      generalize m[k] = yk at hy1 hst hat
      rw [show sameSr xk yk = ((xk.name.toList == yk.name.toList) && sameL sameDc xk.fields.l yk.fields.l) from rfl] at hst hat
      have lx0 := cell_regrown (cell_at (rangeAt_below hx1.1 HBW.out) 0 _ rfl)
      have ly0 := cell_regrown (cell_at (rangeAt_below hy1.1 HBW.out) 0 _ rfl)
      have lx2 := cell_regrown (cell_at (rangeAt_below hx1.1 HBW.out) 2 _ rfl)
      have ly2 := cell_regrown (cell_at (rangeAt_below hy1.1 HBW.out) 2 _ rfl)
      simp only [Nat.add_zero] at lx0 ly0
      have qa := cell_regrown ka
      have qb := cell_regrown kb
      have CV : ∀ dd os, Calls Tryz.prog 27 #[.slice xk.fields.p xk.fields.l.length xk.fields.cap, .slice yk.fields.p yk.fields.l.length yk.fields.cap] (grow (redrawn wr dd) os) fun en w'' => en = .returned (.bool (sameL sameDc xk.fields.l yk.fields.l)) ∧ ∃ p : Regrown, w'' = grow (redrawn wr p.d) p.os :=
       fun dd os => Calls.regrown_of (refDecls_any _ _ _ _ _ _ _ (Lay.of_sl (decls_of (declsLie_below (declsLie_below hx1.2 HBW.out) (below_regrown _ _ _))) (by decide)) (Lay.of_sl (decls_of (declsLie_below (declsLie_below hy1.2 HBW.out) (below_regrown _ _ _))) (by decide)))
      generalize e0 : (xk.name.toList == yk.name.toList) = z0 at hst hat
      have f0 : (xk.name.toList != yk.name.toList) = !z0 := by rw [← e0]; rfl
      generalize sameL sameDc xk.fields.l yk.fields.l = z1 at CV hst hat
      have HST := hdn hst
      have HAT := hdn hat
      clear h1x h2x hst hat hkl0 hx1 hy1
      cases z0
      ·go_wp2_with fail
       refine wp_region_quiet_below (by kernel_rfl) (by kernel_rfl) ?_
       repeat (go_big_quiet_step (with_reducible exact CV _ _))
       refine wpQuiet_nil ?_
       intro _ hw'
       obtain ⟨⟨dq, osq⟩, hw''⟩ := hw'
       subst hw''
       have HB3 := hdn (below_regrown wr dq osq)
       generalize grow (redrawn wr dq) osq = w3 at HB3 ⊢
       go_wp2_with fail
       go_ret
       exact ⟨ret_bool (by rw [HAT.out (by first | rfl | trivial | simp)]; simp), HBW.out.trans (HB3.out.mono HBW.out.size)⟩
      ·cases z1
       ·go_wp2_with fail
        refine wp_region_quiet_below (by kernel_rfl) (by kernel_rfl) ?_
        repeat (go_big_quiet_step (with_reducible exact CV _ _))
        refine wpQuiet_nil ?_
        intro _ hw'
        obtain ⟨⟨dq, osq⟩, hw''⟩ := hw'
        subst hw''
        have HB3 := hdn (below_regrown wr dq osq)
        generalize grow (redrawn wr dq) osq = w3 at HB3 ⊢
        go_wp2_with fail
        go_ret
        exact ⟨ret_bool (by rw [HAT.out (by first | rfl | trivial | simp)]; simp), HBW.out.trans (HB3.out.mono HBW.out.size)⟩
       ·go_wp2_with fail
        refine wp_region_quiet_below (by kernel_rfl) (by kernel_rfl) ?_
        repeat (go_big_quiet_step (with_reducible exact CV _ _))
        refine wpQuiet_nil ?_
        intro _ hw'
        obtain ⟨⟨dq, osq⟩, hw''⟩ := hw'
        subst hw''
        have HB3 := hdn (below_regrown wr dq osq)
        generalize grow (redrawn wr dq) osq = w3 at HB3 ⊢
        go_wp2_with fail
        go_roundw
        case rel => exact ⟨k + 1, by go_num, by omega, hdn (by rw [HST.out, HT.out]; rfl), hdn (HB.out.trans (HB3.out.mono HB.out.size))⟩
        case measure => simp [intOf]; omega
     ·have HF : Hid (sameL sameSr l m = true) := hdn (by
       have := HT.out
       rwa [List.take_of_length_le (by omega), List.take_of_length_le (by have := HL1.out; omega)] at this)
      go_wp2_with fail
      obtain ⟨wo, rfl⟩ : ∃ wo : World, wo = wr := ⟨_, rfl⟩
      go_loopw [6] (fun i wr => ∃ k : Nat, i = .int .i64 k ∧ k ≤ r.length ∧ Hid (sameL samePc (r.take k) (s.take k) = true) ∧ Hid (Below wA.heap.size wA wr)) (fun i _ => r.length - (intOf i).toNat)
      case atStart => exact ⟨0, rfl, Nat.zero_le _, hdn rfl, HB⟩
      case round =>
       clear ka kb kc kd hkl0 hk HBW HT
       obtain ⟨k, rfl, hk, HT, HC⟩ := hrel
       obtain ⟨ka, kb, kc, kd⟩ := HK.out wr HC.out
       have HBW : Hid (Below w.heap.size w wr) := hdn (HA.out.trans (HC.out.mono HA.out.size))
       by_cases hkl0 : k < r.length
       ·have hkm : k < s.length := by have := HL2.out; omega
        have hkl := hkm
        obtain ⟨b2, o2, rfl, h2x⟩ : ∃ b o, q2 = some ⟨b, o, none⟩ ∧ ∀ k x, s[k]? = some x → w.rangeAt b (o + k * 6) (Pc.cells x) ∧ pcLies w x := by
         rcases H4.out with h | h
         ·rw [h] at hkl; simp at hkl
         ·exact h
        clear hkl
        have hkl := hkl0
        obtain ⟨b1, o1, rfl, h1x⟩ : ∃ b o, q1 = some ⟨b, o, none⟩ ∧ ∀ k x, r[k]? = some x → w.rangeAt b (o + k * 6) (Pc.cells x) ∧ pcLies w x := by
         rcases H3.out with h | h
         ·rw [h] at hkl; simp at hkl
         ·exact h
        have hx1 := h1x k r[k] (List.getElem?_eq_getElem hkl)
        have hy1 := h2x k s[k] (List.getElem?_eq_getElem hkm)
        have hst := sameL_step (f := samePc) k hkl hkm
        have hat := sameL_at (f := samePc) k hkl hkm
        have hk0 : (0 : Int) ≤ (k : Int) := Int.natCast_nonneg _
        have hk1 : (k : Int) < (r.length : Int) := by omega
        have hk2 : (k : Int) < (s.length : Int) := by omega
        generalize r[k] = xk at hx1 hst hat
        generalize s[k] = yk at hy1 hst hat
        rw [show samePc xk yk = ((xk.name.toList == yk.name.toList) && (sameL sameDc xk.params.l yk.params.l && (sameL sameDc xk.locals_.l yk.locals_.l && sameSL xk.body yk.body))) from rfl] at hst hat
        have lx0 := cell_at (rangeAt_below hx1.1 HBW.out) 0 _ rfl
        have ly0 := cell_at (rangeAt_below hy1.1 HBW.out) 0 _ rfl
        have lx1 := cell_at (rangeAt_below hx1.1 HBW.out) 1 _ rfl
        have ly1 := cell_at (rangeAt_below hy1.1 HBW.out) 1 _ rfl
        have lx2 := cell_at (rangeAt_below hx1.1 HBW.out) 2 _ rfl
        have ly2 := cell_at (rangeAt_below hy1.1 HBW.out) 2 _ rfl
        have lx3 := cell_at (rangeAt_below hx1.1 HBW.out) 3 _ rfl
        have ly3 := cell_at (rangeAt_below hy1.1 HBW.out) 3 _ rfl
        have lx4 := cell_at (rangeAt_below hx1.1 HBW.out) 4 _ rfl
        have ly4 := cell_at (rangeAt_below hy1.1 HBW.out) 4 _ rfl
        have lx5 := cell_at (rangeAt_below hx1.1 HBW.out) 5 _ rfl
        have ly5 := cell_at (rangeAt_below hy1.1 HBW.out) 5 _ rfl
        simp only [Nat.add_zero] at lx0 ly0
        have P1 : ∀ w', Below w.heap.size w w' → Calls Tryz.prog 27 #[.slice xk.params.p xk.params.l.length xk.params.cap, .slice yk.params.p yk.params.l.length yk.params.cap] w' fun en w'' => en = .returned (.bool (sameL sameDc xk.params.l yk.params.l)) ∧ Below w'.heap.size w' w'' := fun w' hb =>
         refDecls_any _ _ _ _ _ _ w' (Lay.of_sl (decls_of (pcLies_below hx1.2 hb).1) (by decide)) (Lay.of_sl (decls_of (pcLies_below hy1.2 hb).1) (by decide))
        have P2 : ∀ w', Below w.heap.size w w' → Calls Tryz.prog 27 #[.slice xk.locals_.p xk.locals_.l.length xk.locals_.cap, .slice yk.locals_.p yk.locals_.l.length yk.locals_.cap] w' fun en w'' => en = .returned (.bool (sameL sameDc xk.locals_.l yk.locals_.l)) ∧ Below w'.heap.size w' w'' := fun w' hb =>
         refDecls_any _ _ _ _ _ _ w' (Lay.of_sl (decls_of (pcLies_below hx1.2 hb).2.1) (by decide)) (Lay.of_sl (decls_of (pcLies_below hy1.2 hb).2.1) (by decide))
        have P3 : ∀ w', Below w.heap.size w w' → Calls Tryz.prog 28 #[.slice xk.bp xk.body.len xk.bc, .slice yk.bp yk.body.len yk.bc] w' fun en w'' => en = .returned (.bool (sameSL xk.body yk.body)) ∧ Below w'.heap.size w' w'' := fun w' hb =>
         refList_any xk.body yk.body _ _ _ _ w' (pcLies_below hx1.2 hb).2.2 (pcLies_below hy1.2 hb).2.2
        generalize e0 : (xk.name.toList == yk.name.toList) = z0 at hst hat
        have f0 : (xk.name.toList != yk.name.toList) = !z0 := by rw [← e0]; rfl
        generalize sameL sameDc xk.params.l yk.params.l = z1 at P1 hst hat
        generalize sameL sameDc xk.locals_.l yk.locals_.l = z2 at P2 hst hat
        generalize sameSL xk.body yk.body = z3 at P3 hst hat
        have HP1 := hdn P1
        have HP2 := hdn P2
        have HP3 := hdn P3
        have HST := hdn hst
        have HAT := hdn hat
        have hb1 := World.block_lt_of_cell? wr _ lx0
        have hb2 := World.block_lt_of_cell? wr _ ly0
        have hb3 := World.block_lt_of_cell? wr _ kc
        have hb4 := World.block_lt_of_cell? wr _ kd
        clear h1x h2x hst hat hkl0 hx1 hy1 P1 P2 P3 ka kb
        go_wp2_with fail
        go_region_held3 (fun w' => w'.cell? ⟨w.heap.size, 2, none⟩ = some (.slice (some ⟨b1, o1, none⟩) r.length d1) ∧ w'.cell? ⟨w.heap.size + 1, 2, none⟩ = some (.slice (some ⟨b2, o2, none⟩) s.length d2) ∧ w'.cell? ⟨b1, o1 + k * 6, none⟩ = some (.string xk.name) ∧ w'.cell? ⟨b1, o1 + k * 6 + 1, none⟩ = some (.int .i64 xk.pos) ∧ w'.cell? ⟨b1, o1 + k * 6 + 2, none⟩ = some (.int .i64 xk.fin) ∧ w'.cell? ⟨b1, o1 + k * 6 + 3, none⟩ = some (.slice xk.params.p xk.params.l.length xk.params.cap) ∧ w'.cell? ⟨b1, o1 + k * 6 + 4, none⟩ = some (.slice xk.locals_.p xk.locals_.l.length xk.locals_.cap) ∧ w'.cell? ⟨b1, o1 + k * 6 + 5, none⟩ = some (.slice xk.bp xk.body.len xk.bc) ∧ w'.cell? ⟨b2, o2 + k * 6, none⟩ = some (.string yk.name) ∧ w'.cell? ⟨b2, o2 + k * 6 + 1, none⟩ = some (.int .i64 yk.pos) ∧ w'.cell? ⟨b2, o2 + k * 6 + 2, none⟩ = some (.int .i64 yk.fin) ∧ w'.cell? ⟨b2, o2 + k * 6 + 3, none⟩ = some (.slice yk.params.p yk.params.l.length yk.params.cap) ∧ w'.cell? ⟨b2, o2 + k * 6 + 4, none⟩ = some (.slice yk.locals_.p yk.locals_.l.length yk.locals_.cap) ∧ w'.cell? ⟨b2, o2 + k * 6 + 5, none⟩ = some (.slice yk.bp yk.body.len yk.bc)) (go_keep) ((fail))
        all_goals
         cases z0
         ·go_wp2_with fail
          go_ret
          exact ⟨ret_bool (by rw [HAT.out (by first | rfl | trivial | simp)]; simp), HBW.out.trans ((below_drewN_ (((Below.refl wr.heap.size wr).alloc (Nat.le_refl _) _).alloc (by simp) _) 1).mono HBW.out.size)⟩
         ·cases z1
          ·go_wp2_with fail
           refine (HP1.out _ (HBW.out.trans ((below_drewN_ (((Below.refl wr.heap.size wr).alloc (Nat.le_refl _) _).alloc (by simp) _) 1).mono HBW.out.size))).mono ?_; rintro en w1 ⟨rfl, hb1⟩
           have ca1 := fun j => hb1.cell (p := ⟨wr.heap.size, j, none⟩) (by simp; omega)
           have cb1 := fun j => hb1.cell (p := ⟨wr.heap.size + 1, j, none⟩) (by simp)
           have HZ1 : Hid (Below wr.heap.size wr w1) := hdn ((below_drewN_ (((Below.refl wr.heap.size wr).alloc (Nat.le_refl _) _).alloc (by simp) _) 1).trans (hb1.mono (by simp; omega)))
           have HY1 := hdn hb1
           clear hb1
           go_wp2_with fail
           go_ret
           exact ⟨ret_bool (by rw [HAT.out (by first | rfl | trivial | simp)]; simp), HBW.out.trans (HZ1.out.mono HBW.out.size)⟩
          ·cases z2
           ·go_wp2_with fail
            refine (HP1.out _ (HBW.out.trans ((below_drewN_ (((Below.refl wr.heap.size wr).alloc (Nat.le_refl _) _).alloc (by simp) _) 1).mono HBW.out.size))).mono ?_; rintro en w1 ⟨rfl, hb1⟩
            have ca1 := fun j => hb1.cell (p := ⟨wr.heap.size, j, none⟩) (by simp; omega)
            have cb1 := fun j => hb1.cell (p := ⟨wr.heap.size + 1, j, none⟩) (by simp)
            have HZ1 : Hid (Below wr.heap.size wr w1) := hdn ((below_drewN_ (((Below.refl wr.heap.size wr).alloc (Nat.le_refl _) _).alloc (by simp) _) 1).trans (hb1.mono (by simp; omega)))
            have HY1 := hdn hb1
            clear hb1
            go_wp2_with fail
            refine (HP2.out _ (HBW.out.trans (HZ1.out.mono HBW.out.size))).mono ?_; rintro en w2 ⟨rfl, hb2⟩
            have HY2 := hdn (HY1.out.trans (hb2.mono HY1.out.size))
            have ca2 := fun j => HY2.out.cell (p := ⟨wr.heap.size, j, none⟩) (by simp; omega)
            have cb2 := fun j => HY2.out.cell (p := ⟨wr.heap.size + 1, j, none⟩) (by simp)
            have HZ2 : Hid (Below wr.heap.size wr w2) := hdn (HZ1.out.trans (hb2.mono HZ1.out.size))
            clear hb2
            go_wp2_with fail
            go_ret
            exact ⟨ret_bool (by rw [HAT.out (by first | rfl | trivial | simp)]; simp), HBW.out.trans (HZ2.out.mono HBW.out.size)⟩
           ·cases z3
            ·go_wp2_with fail
             refine (HP1.out _ (HBW.out.trans ((below_drewN_ (((Below.refl wr.heap.size wr).alloc (Nat.le_refl _) _).alloc (by simp) _) 1).mono HBW.out.size))).mono ?_; rintro en w1 ⟨rfl, hb1⟩
             have ca1 := fun j => hb1.cell (p := ⟨wr.heap.size, j, none⟩) (by simp; omega)
             have cb1 := fun j => hb1.cell (p := ⟨wr.heap.size + 1, j, none⟩) (by simp)
             have HZ1 : Hid (Below wr.heap.size wr w1) := hdn ((below_drewN_ (((Below.refl wr.heap.size wr).alloc (Nat.le_refl _) _).alloc (by simp) _) 1).trans (hb1.mono (by simp; omega)))
             have HY1 := hdn hb1
             clear hb1
             go_wp2_with fail
             refine (HP2.out _ (HBW.out.trans (HZ1.out.mono HBW.out.size))).mono ?_; rintro en w2 ⟨rfl, hb2⟩
             have HY2 := hdn (HY1.out.trans (hb2.mono HY1.out.size))
             have ca2 := fun j => HY2.out.cell (p := ⟨wr.heap.size, j, none⟩) (by simp; omega)
             have cb2 := fun j => HY2.out.cell (p := ⟨wr.heap.size + 1, j, none⟩) (by simp)
             have HZ2 : Hid (Below wr.heap.size wr w2) := hdn (HZ1.out.trans (hb2.mono HZ1.out.size))
             clear hb2
             go_wp2_with fail
             refine (HP3.out _ (HBW.out.trans (HZ2.out.mono HBW.out.size))).mono ?_; rintro en w3 ⟨rfl, hb3⟩
             have HY3 := hdn (HY2.out.trans (hb3.mono HY2.out.size))
             have ca3 := fun j => HY3.out.cell (p := ⟨wr.heap.size, j, none⟩) (by simp; omega)
             have cb3 := fun j => HY3.out.cell (p := ⟨wr.heap.size + 1, j, none⟩) (by simp)
             have HZ3 : Hid (Below wr.heap.size wr w3) := hdn (HZ2.out.trans (hb3.mono HZ2.out.size))
             clear hb3
             go_wp2_with fail
             go_ret
             exact ⟨ret_bool (by rw [HAT.out (by first | rfl | trivial | simp)]; simp), HBW.out.trans (HZ3.out.mono HBW.out.size)⟩
            ·go_wp2_with fail
             refine (HP1.out _ (HBW.out.trans ((below_drewN_ (((Below.refl wr.heap.size wr).alloc (Nat.le_refl _) _).alloc (by simp) _) 1).mono HBW.out.size))).mono ?_; rintro en w1 ⟨rfl, hb1⟩
             have ca1 := fun j => hb1.cell (p := ⟨wr.heap.size, j, none⟩) (by simp; omega)
             have cb1 := fun j => hb1.cell (p := ⟨wr.heap.size + 1, j, none⟩) (by simp)
             have HZ1 : Hid (Below wr.heap.size wr w1) := hdn ((below_drewN_ (((Below.refl wr.heap.size wr).alloc (Nat.le_refl _) _).alloc (by simp) _) 1).trans (hb1.mono (by simp; omega)))
             have HY1 := hdn hb1
             clear hb1
             go_wp2_with fail
             refine (HP2.out _ (HBW.out.trans (HZ1.out.mono HBW.out.size))).mono ?_; rintro en w2 ⟨rfl, hb2⟩
             have HY2 := hdn (HY1.out.trans (hb2.mono HY1.out.size))
             have ca2 := fun j => HY2.out.cell (p := ⟨wr.heap.size, j, none⟩) (by simp; omega)
             have cb2 := fun j => HY2.out.cell (p := ⟨wr.heap.size + 1, j, none⟩) (by simp)
             have HZ2 : Hid (Below wr.heap.size wr w2) := hdn (HZ1.out.trans (hb2.mono HZ1.out.size))
             clear hb2
             go_wp2_with fail
             refine (HP3.out _ (HBW.out.trans (HZ2.out.mono HBW.out.size))).mono ?_; rintro en w3 ⟨rfl, hb3⟩
             have HY3 := hdn (HY2.out.trans (hb3.mono HY2.out.size))
             have ca3 := fun j => HY3.out.cell (p := ⟨wr.heap.size, j, none⟩) (by simp; omega)
             have cb3 := fun j => HY3.out.cell (p := ⟨wr.heap.size + 1, j, none⟩) (by simp)
             have HZ3 : Hid (Below wr.heap.size wr w3) := hdn (HZ2.out.trans (hb3.mono HZ2.out.size))
             clear hb3
             go_wp2_with fail
             go_roundw
             case rel => exact ⟨k + 1, by go_num, by omega, hdn (by rw [HST.out, HT.out]; rfl), hdn (HC.out.trans (HZ3.out.mono HC.out.size))⟩
             case measure => simp [intOf]; omega
       ·have HF2 : Hid (sameL samePc r s = true) := hdn (by
         have := HT.out
         rwa [List.take_of_length_le (by omega), List.take_of_length_le (by have := HL2.out; omega)] at this)
        go_wp2_with fail
        go_ret
        exact ⟨ret_bool (by rw [HF.out, HF2.out]; rfl), HBW.out⟩
  ·have hl2_q : ((r.length : Int) != (s.length : Int)) = true := by
    rw [bne_iff_ne]; intro e; exact hl2_ (by omega)
   rw [sameL_len hl2_]
   clear hl2_
   go_enter Tryz.func11, Tryz.ntmps11
   go_wp2_with fail
   go_ret
   exact ⟨ret_bool (by simp), HA.out⟩
 ·have hl1_q : ((l.length : Int) != (m.length : Int)) = true := by
   rw [bne_iff_ne]; intro e; exact hl1_ (by omega)
  rw [sameL_len hl1_]
  clear hl1_
  go_enter Tryz.func11, Tryz.ntmps11
  go_wp2_with fail
  go_ret
  exact ⟨ret_bool (by simp), HA.out⟩
end Go.Proofs.YtdlchhimkelinaaGreatDoor
namespace Go.Proofs.YtdlchhimkelinaaGreatDoor
open Go.RowKit Go.Sort
theorem side_len {x : Vl} (h : Pn.okSide x = true) : (Pn.valT x).length ≤ 200 := by
 unfold Pn.okSide at h
 simp only [Bool.and_eq_true, Bool.or_eq_true, decide_eq_true_eq] at h
 obtain ⟨hv, hk⟩ := h
 unfold Pn.okVal at hv
 unfold Pn.valT
 by_cases k0 : x.kind = 0
 ·rw [if_pos k0]; decide
 rw [if_neg k0]
 by_cases k1 : x.kind = 1
 ·rw [if_pos k1]
  rw [if_neg (by omega), if_pos k1] at hv
  simp only [Bool.and_eq_true] at hv
  have hp := hv.2
  unfold Pn.okPath at hp
  simp only [Bool.and_eq_true, decide_eq_true_eq, List.all_eq_true] at hp
  have h1 := (Pn.okN_nameB hp.1.1).1
  have h2 := Pn.hopsT_len x.path.hops.l hp.2
  simp only [Pn.pathT, List.length_append, Pn.txt, Tx.len_eq]
  have := hp.1.2
  omega
 rw [if_neg k1]
 have k4 : x.kind = 4 := by omega
 rw [if_neg (by omega), if_neg (by omega), if_pos k4]
 rw [if_neg (by omega), if_neg k1, if_neg (by omega), if_pos k4] at hv
 simp only [Bool.and_eq_true] at hv
 have := digits_len 9 x.left.n.toNat (by have := (okNum_nat hv.2).2; omega)
 omega
theorem cond_t0 (c : Cd) (w : World) (k : c.kind = 0) : Calls Tryz.prog 71 #[.agg #[.int .i64 c.kind, .int .i64 c.pos, .int .i64 c.left.kind, .int .i64 c.left.pos, .string c.left.path.name, .int .i64 c.left.path.pos, .slice c.left.path.hops.p c.left.path.hops.l.length c.left.path.hops.cap, .string c.left.type, .string c.left.left.name, .int .i64 c.left.left.n, .int .i64 c.left.left.pos, .string c.left.right.name, .int .i64 c.left.right.n, .int .i64 c.left.right.pos, .int .i64 c.right.kind, .int .i64 c.right.pos, .string c.right.path.name, .int .i64 c.right.path.pos, .slice c.right.path.hops.p c.right.path.hops.l.length c.right.path.hops.cap, .string c.right.type, .string c.right.left.name, .int .i64 c.right.left.n, .int .i64 c.right.left.pos, .string c.right.right.name, .int .i64 c.right.right.n, .int .i64 c.right.right.pos]] w fun e w' => e = .returned (.string (bt [63])) ∧ Below w.heap.size w w' := by
 have Z_k := hdn k
 clear k
 obtain ⟨wA, hwA⟩ : ∃ wA : World, wA = w.alloc (.cells #[.int .i64 c.kind, .int .i64 c.pos, .int .i64 c.left.kind, .int .i64 c.left.pos, .string c.left.path.name, .int .i64 c.left.path.pos, .slice c.left.path.hops.p c.left.path.hops.l.length c.left.path.hops.cap, .string c.left.type, .string c.left.left.name, .int .i64 c.left.left.n, .int .i64 c.left.left.pos, .string c.left.right.name, .int .i64 c.left.right.n, .int .i64 c.left.right.pos, .int .i64 c.right.kind, .int .i64 c.right.pos, .string c.right.path.name, .int .i64 c.right.path.pos, .slice c.right.path.hops.p c.right.path.hops.l.length c.right.path.hops.cap, .string c.right.type, .string c.right.left.name, .int .i64 c.right.left.n, .int .i64 c.right.left.pos, .string c.right.right.name, .int .i64 c.right.right.n, .int .i64 c.right.right.pos] 51) := ⟨_, rfl⟩
 have HBA : Hid (Below w.heap.size w wA) := hdn (by rw [hwA]; exact (Below.refl _ _).alloc (Nat.le_refl _) _)
 have HK : Hid (Bk wA w.heap.size 51 #[.int .i64 c.kind, .int .i64 c.pos, .int .i64 c.left.kind, .int .i64 c.left.pos, .string c.left.path.name, .int .i64 c.left.path.pos, .slice c.left.path.hops.p c.left.path.hops.l.length c.left.path.hops.cap, .string c.left.type, .string c.left.left.name, .int .i64 c.left.left.n, .int .i64 c.left.left.pos, .string c.left.right.name, .int .i64 c.left.right.n, .int .i64 c.left.right.pos, .int .i64 c.right.kind, .int .i64 c.right.pos, .string c.right.path.name, .int .i64 c.right.path.pos, .slice c.right.path.hops.p c.right.path.hops.l.length c.right.path.hops.cap, .string c.right.type, .string c.right.left.name, .int .i64 c.right.left.n, .int .i64 c.right.left.pos, .string c.right.right.name, .int .i64 c.right.right.n, .int .i64 c.right.right.pos]) := hdn (by rw [hwA]; exact heap_alloc_new _ _)
 go_enter Tryz.func71, Tryz.ntmps71
 go_upto_region 1 with fail
 rw [← hwA]
 clear hwA
 obtain ⟨A, hA⟩ : ∃ A, A = w.heap.size := ⟨_, rfl⟩
 rw [← hA] at HK ⊢
 have HA := hdn hA
 clear hA
 obtain ⟨wB, hwB⟩ : ∃ wB : World, wB = wA.alloc (.cells #[.string ⟨#[63]⟩, .string ⟨#[32, 61, 61, 32]⟩, .string ⟨#[32, 33, 61, 32]⟩, .string ⟨#[32, 60, 32]⟩, .string ⟨#[32, 62, 61, 32]⟩] 9) := ⟨_, rfl⟩
 have HBB : Hid (Below wA.heap.size wA wB) := hdn (by rw [hwB]; exact (Below.refl _ _).alloc (Nat.le_refl _) _)
 have HKB : Hid (Bk wB wA.heap.size 9 #[.string ⟨#[63]⟩, .string ⟨#[32, 61, 61, 32]⟩, .string ⟨#[32, 33, 61, 32]⟩, .string ⟨#[32, 60, 32]⟩, .string ⟨#[32, 62, 61, 32]⟩]) := hdn (by rw [hwB]; exact heap_alloc_new _ _)
 have HK2 := hdn (HK.out.below HBB.out HK.out.lt)
 have HB2 := hdn (HBA.out.trans (HBB.out.mono HBA.out.size))
 go_upto_region 2 with fail
 rw [← hwB]
 clear hwB
 obtain ⟨G, hG⟩ : ∃ G, G = wA.heap.size := ⟨_, rfl⟩
 rw [← hG] at HKB ⊢
 clear hG
 have c0 : wB.cell? ⟨A, 0, none⟩ = some (.int .i64 c.kind) := HK2.out.cell 0
 have k := Z_k.out
 go_wp2_with fail
 go_ret
 exact ⟨rfl, HB2.out⟩
theorem cond_t1 (hD : DigOk) (c : Cd) (w : World) (k : c.kind = 1) (hl : vlLies w c.left) (hr : vlLies w c.right) (ol : Pn.okSide c.left = true) (orr : Pn.okSide c.right = true) :
  Calls Tryz.prog 71 #[.agg #[.int .i64 c.kind, .int .i64 c.pos, .int .i64 c.left.kind, .int .i64 c.left.pos, .string c.left.path.name, .int .i64 c.left.path.pos, .slice c.left.path.hops.p c.left.path.hops.l.length c.left.path.hops.cap, .string c.left.type, .string c.left.left.name, .int .i64 c.left.left.n, .int .i64 c.left.left.pos, .string c.left.right.name, .int .i64 c.left.right.n, .int .i64 c.left.right.pos, .int .i64 c.right.kind, .int .i64 c.right.pos, .string c.right.path.name, .int .i64 c.right.path.pos, .slice c.right.path.hops.p c.right.path.hops.l.length c.right.path.hops.cap, .string c.right.type, .string c.right.left.name, .int .i64 c.right.left.n, .int .i64 c.right.left.pos, .string c.right.right.name, .int .i64 c.right.right.n, .int .i64 c.right.right.pos]] w fun e w' => e = .returned (.string (bt (Pn.valT c.left ++ [32, 61, 61, 32] ++ Pn.valT c.right))) ∧ Below w.heap.size w w' := by
 have Z_k := hdn k; have Z_l := hdn hl; have Z_r := hdn hr
 have vl : Pn.okVal c.left = true := by unfold Pn.okSide at ol; simp only [Bool.and_eq_true] at ol; exact ol.1
 have vr : Pn.okVal c.right = true := by unfold Pn.okSide at orr; simp only [Bool.and_eq_true] at orr; exact orr.1
 have V_l := hdn vl; have V_r := hdn vr
 have S_l : Hid ((bt (Pn.valT c.left)).size ≤ 200) := hdn (side_len ol)
 have S_r : Hid ((bt (Pn.valT c.right)).size ≤ 200) := hdn (side_len orr)
 clear k hl hr vl vr ol orr
 obtain ⟨wA, hwA⟩ : ∃ wA : World, wA = w.alloc (.cells #[.int .i64 c.kind, .int .i64 c.pos, .int .i64 c.left.kind, .int .i64 c.left.pos, .string c.left.path.name, .int .i64 c.left.path.pos, .slice c.left.path.hops.p c.left.path.hops.l.length c.left.path.hops.cap, .string c.left.type, .string c.left.left.name, .int .i64 c.left.left.n, .int .i64 c.left.left.pos, .string c.left.right.name, .int .i64 c.left.right.n, .int .i64 c.left.right.pos, .int .i64 c.right.kind, .int .i64 c.right.pos, .string c.right.path.name, .int .i64 c.right.path.pos, .slice c.right.path.hops.p c.right.path.hops.l.length c.right.path.hops.cap, .string c.right.type, .string c.right.left.name, .int .i64 c.right.left.n, .int .i64 c.right.left.pos, .string c.right.right.name, .int .i64 c.right.right.n, .int .i64 c.right.right.pos] 51) := ⟨_, rfl⟩
 have HBA : Hid (Below w.heap.size w wA) := hdn (by rw [hwA]; exact (Below.refl _ _).alloc (Nat.le_refl _) _)
 have HK : Hid (Bk wA w.heap.size 51 #[.int .i64 c.kind, .int .i64 c.pos, .int .i64 c.left.kind, .int .i64 c.left.pos, .string c.left.path.name, .int .i64 c.left.path.pos, .slice c.left.path.hops.p c.left.path.hops.l.length c.left.path.hops.cap, .string c.left.type, .string c.left.left.name, .int .i64 c.left.left.n, .int .i64 c.left.left.pos, .string c.left.right.name, .int .i64 c.left.right.n, .int .i64 c.left.right.pos, .int .i64 c.right.kind, .int .i64 c.right.pos, .string c.right.path.name, .int .i64 c.right.path.pos, .slice c.right.path.hops.p c.right.path.hops.l.length c.right.path.hops.cap, .string c.right.type, .string c.right.left.name, .int .i64 c.right.left.n, .int .i64 c.right.left.pos, .string c.right.right.name, .int .i64 c.right.right.n, .int .i64 c.right.right.pos]) := hdn (by rw [hwA]; exact heap_alloc_new _ _)
 go_enter Tryz.func71, Tryz.ntmps71
 go_upto_region 1 with fail
 rw [← hwA]
 clear hwA
 obtain ⟨A, hA⟩ : ∃ A, A = w.heap.size := ⟨_, rfl⟩
 rw [← hA] at HK ⊢
 have HA := hdn hA
 clear hA
 obtain ⟨wB, hwB⟩ : ∃ wB : World, wB = wA.alloc (.cells #[.string ⟨#[63]⟩, .string ⟨#[32, 61, 61, 32]⟩, .string ⟨#[32, 33, 61, 32]⟩, .string ⟨#[32, 60, 32]⟩, .string ⟨#[32, 62, 61, 32]⟩] 9) := ⟨_, rfl⟩
 have HBB : Hid (Below wA.heap.size wA wB) := hdn (by rw [hwB]; exact (Below.refl _ _).alloc (Nat.le_refl _) _)
 have HKB : Hid (Bk wB wA.heap.size 9 #[.string ⟨#[63]⟩, .string ⟨#[32, 61, 61, 32]⟩, .string ⟨#[32, 33, 61, 32]⟩, .string ⟨#[32, 60, 32]⟩, .string ⟨#[32, 62, 61, 32]⟩]) := hdn (by rw [hwB]; exact heap_alloc_new _ _)
 have HK2 := hdn (HK.out.below HBB.out HK.out.lt)
 have HB2 := hdn (HBA.out.trans (HBB.out.mono HBA.out.size))
 go_upto_region 2 with fail
 rw [← hwB]
 clear hwB
 obtain ⟨G, hG⟩ : ∃ G, G = wA.heap.size := ⟨_, rfl⟩
 rw [← hG] at HKB ⊢
 clear hG
 have c0 : wB.cell? ⟨A, 0, none⟩ = some (.int .i64 c.kind) := HK2.out.cell 0
 have CL : ∀ dd os, Calls Tryz.prog 70 #[.agg #[.int .i64 c.left.kind, .int .i64 c.left.pos, .string c.left.path.name, .int .i64 c.left.path.pos, .slice c.left.path.hops.p c.left.path.hops.l.length c.left.path.hops.cap, .string c.left.type, .string c.left.left.name, .int .i64 c.left.left.n, .int .i64 c.left.left.pos, .string c.left.right.name, .int .i64 c.left.right.n, .int .i64 c.left.right.pos]] (grow (redrawn wB dd) os) fun en w'' => en = .returned (.string (bt (Pn.valT c.left))) ∧ ∃ p : Regrown, w'' = grow (redrawn wB p.d) p.os :=
  fun dd os => Calls.regrown_of (valT_any hD c.left _ (vlLies_below (vlLies_below Z_l.out HB2.out) (below_regrown _ _ _)) V_l.out)
 have CR : ∀ dd os, Calls Tryz.prog 70 #[.agg #[.int .i64 c.right.kind, .int .i64 c.right.pos, .string c.right.path.name, .int .i64 c.right.path.pos, .slice c.right.path.hops.p c.right.path.hops.l.length c.right.path.hops.cap, .string c.right.type, .string c.right.left.name, .int .i64 c.right.left.n, .int .i64 c.right.left.pos, .string c.right.right.name, .int .i64 c.right.right.n, .int .i64 c.right.right.pos]] (grow (redrawn wB dd) os) fun en w'' => en = .returned (.string (bt (Pn.valT c.right))) ∧ ∃ p : Regrown, w'' = grow (redrawn wB p.d) p.os :=
  fun dd os => Calls.regrown_of (valT_any hD c.right _ (vlLies_below (vlLies_below Z_r.out HB2.out) (below_regrown _ _ _)) V_r.out)
 have HRL : Hid (∀ w', (∃ p : Regrown, w' = grow (redrawn wB p.d) p.os) → w'.rangeAt A 2 (#[.int .i64 c.left.kind, .int .i64 c.left.pos, .string c.left.path.name, .int .i64 c.left.path.pos, .slice c.left.path.hops.p c.left.path.hops.l.length c.left.path.hops.cap, .string c.left.type, .string c.left.left.name, .int .i64 c.left.left.n, .int .i64 c.left.left.pos, .string c.left.right.name, .int .i64 c.left.right.n, .int .i64 c.left.right.pos] : Array Value).toList) := hdn (fun w' hw' => by
  obtain ⟨p, rfl⟩ := hw'
  have := rangeAt_sub (rangeAt_below HK2.out.range (below_regrown wB p.d p.os)) 2 12 rfl
  rwa [Nat.zero_add] at this)
 have HRR : Hid (∀ w', (∃ p : Regrown, w' = grow (redrawn wB p.d) p.os) → w'.rangeAt A 14 (#[.int .i64 c.right.kind, .int .i64 c.right.pos, .string c.right.path.name, .int .i64 c.right.path.pos, .slice c.right.path.hops.p c.right.path.hops.l.length c.right.path.hops.cap, .string c.right.type, .string c.right.left.name, .int .i64 c.right.left.n, .int .i64 c.right.left.pos, .string c.right.right.name, .int .i64 c.right.right.n, .int .i64 c.right.right.pos] : Array Value).toList) := hdn (fun w' hw' => by
  obtain ⟨p, rfl⟩ := hw'
  have := rangeAt_sub (rangeAt_below HK2.out.range (below_regrown wB p.d p.os)) 14 12 rfl
  rwa [Nat.zero_add] at this)
 have k0 := cell_regrown c0
 have g1 : wB.cell? ⟨G, 1, none⟩ = some (.string ⟨#[32, 61, 61, 32]⟩) := HKB.out.cell 1
 have gk := cell_regrown g1
 have HE : Hid (bt (Pn.valT c.left ++ [32, 61, 61, 32] ++ Pn.valT c.right) = bt (Pn.valT c.left) ++ ⟨#[32, 61, 61, 32]⟩ ++ bt (Pn.valT c.right)) := hdn (ba_ext (by simp [bt]))
 have sl := S_l.out
 have sr := S_r.out
 generalize bt (Pn.valT c.left) = tl at *
 generalize bt (Pn.valT c.right) = tr at *
 have k := Z_k.out
 go_wp2_with fail
 refine wp_region_quiet_below (by kernel_rfl) (by kernel_rfl) ?_
 repeat (first | ((with_reducible show wpQuiet _ _ _ _ (Oper.mk (some 9) _ _ _ _ _ :: _) _); refine wpQuiet_load rfl 49 (.tmp 8) rfl A 2 rfl #[.int .i64 c.left.kind, .int .i64 c.left.pos, .string c.left.path.name, .int .i64 c.left.path.pos, .slice c.left.path.hops.p c.left.path.hops.l.length c.left.path.hops.cap, .string c.left.type, .string c.left.left.name, .int .i64 c.left.left.n, .int .i64 c.left.left.pos, .string c.left.right.name, .int .i64 c.left.right.n, .int .i64 c.left.right.pos] _ HRL.out Tryz.underlying49 rfl size52 ?_; simp only [Act.put, List.setIfInBounds_toArray, List.set_cons_zero, List.set_cons_succ]) | ((with_reducible show wpQuiet _ _ _ _ (Oper.mk (some 18) _ _ _ _ _ :: _) _); refine wpQuiet_load rfl 49 (.tmp 17) rfl A 14 rfl #[.int .i64 c.right.kind, .int .i64 c.right.pos, .string c.right.path.name, .int .i64 c.right.path.pos, .slice c.right.path.hops.p c.right.path.hops.l.length c.right.path.hops.cap, .string c.right.type, .string c.right.left.name, .int .i64 c.right.left.n, .int .i64 c.right.left.pos, .string c.right.right.name, .int .i64 c.right.right.n, .int .i64 c.right.right.pos] _ HRR.out Tryz.underlying49 rfl size52 ?_; simp only [Act.put, List.setIfInBounds_toArray, List.set_cons_zero, List.set_cons_succ]) | (go_big_quiet_step (first | (with_reducible exact CL _ _) | (with_reducible exact CR _ _))))
 refine wpQuiet_nil ?_
 intro _ hw'
 obtain ⟨⟨dq, osq⟩, hw''⟩ := hw'
 subst hw''
 have HB3 := hdn (below_regrown wB dq osq)
 generalize grow (redrawn wB dq) osq = w3 at HB3 ⊢
 go_wp2_with fail
 go_ret
 exact ⟨ret_text HE.out.symm, HB2.out.trans (HB3.out.mono HB2.out.size)⟩
theorem cond_t2 (hD : DigOk) (c : Cd) (w : World) (k : c.kind = 2) (hl : vlLies w c.left) (hr : vlLies w c.right) (ol : Pn.okSide c.left = true) (orr : Pn.okSide c.right = true) :
  Calls Tryz.prog 71 #[.agg #[.int .i64 c.kind, .int .i64 c.pos, .int .i64 c.left.kind, .int .i64 c.left.pos, .string c.left.path.name, .int .i64 c.left.path.pos, .slice c.left.path.hops.p c.left.path.hops.l.length c.left.path.hops.cap, .string c.left.type, .string c.left.left.name, .int .i64 c.left.left.n, .int .i64 c.left.left.pos, .string c.left.right.name, .int .i64 c.left.right.n, .int .i64 c.left.right.pos, .int .i64 c.right.kind, .int .i64 c.right.pos, .string c.right.path.name, .int .i64 c.right.path.pos, .slice c.right.path.hops.p c.right.path.hops.l.length c.right.path.hops.cap, .string c.right.type, .string c.right.left.name, .int .i64 c.right.left.n, .int .i64 c.right.left.pos, .string c.right.right.name, .int .i64 c.right.right.n, .int .i64 c.right.right.pos]] w fun e w' => e = .returned (.string (bt (Pn.valT c.left ++ [32, 33, 61, 32] ++ Pn.valT c.right))) ∧ Below w.heap.size w w' := by
 have Z_k := hdn k; have Z_l := hdn hl; have Z_r := hdn hr
 have vl : Pn.okVal c.left = true := by unfold Pn.okSide at ol; simp only [Bool.and_eq_true] at ol; exact ol.1
 have vr : Pn.okVal c.right = true := by unfold Pn.okSide at orr; simp only [Bool.and_eq_true] at orr; exact orr.1
 have V_l := hdn vl; have V_r := hdn vr
 have S_l : Hid ((bt (Pn.valT c.left)).size ≤ 200) := hdn (side_len ol)
 have S_r : Hid ((bt (Pn.valT c.right)).size ≤ 200) := hdn (side_len orr)
 clear k hl hr vl vr ol orr
 obtain ⟨wA, hwA⟩ : ∃ wA : World, wA = w.alloc (.cells #[.int .i64 c.kind, .int .i64 c.pos, .int .i64 c.left.kind, .int .i64 c.left.pos, .string c.left.path.name, .int .i64 c.left.path.pos, .slice c.left.path.hops.p c.left.path.hops.l.length c.left.path.hops.cap, .string c.left.type, .string c.left.left.name, .int .i64 c.left.left.n, .int .i64 c.left.left.pos, .string c.left.right.name, .int .i64 c.left.right.n, .int .i64 c.left.right.pos, .int .i64 c.right.kind, .int .i64 c.right.pos, .string c.right.path.name, .int .i64 c.right.path.pos, .slice c.right.path.hops.p c.right.path.hops.l.length c.right.path.hops.cap, .string c.right.type, .string c.right.left.name, .int .i64 c.right.left.n, .int .i64 c.right.left.pos, .string c.right.right.name, .int .i64 c.right.right.n, .int .i64 c.right.right.pos] 51) := ⟨_, rfl⟩
 have HBA : Hid (Below w.heap.size w wA) := hdn (by rw [hwA]; exact (Below.refl _ _).alloc (Nat.le_refl _) _)
 have HK : Hid (Bk wA w.heap.size 51 #[.int .i64 c.kind, .int .i64 c.pos, .int .i64 c.left.kind, .int .i64 c.left.pos, .string c.left.path.name, .int .i64 c.left.path.pos, .slice c.left.path.hops.p c.left.path.hops.l.length c.left.path.hops.cap, .string c.left.type, .string c.left.left.name, .int .i64 c.left.left.n, .int .i64 c.left.left.pos, .string c.left.right.name, .int .i64 c.left.right.n, .int .i64 c.left.right.pos, .int .i64 c.right.kind, .int .i64 c.right.pos, .string c.right.path.name, .int .i64 c.right.path.pos, .slice c.right.path.hops.p c.right.path.hops.l.length c.right.path.hops.cap, .string c.right.type, .string c.right.left.name, .int .i64 c.right.left.n, .int .i64 c.right.left.pos, .string c.right.right.name, .int .i64 c.right.right.n, .int .i64 c.right.right.pos]) := hdn (by rw [hwA]; exact heap_alloc_new _ _)
 go_enter Tryz.func71, Tryz.ntmps71
 go_upto_region 1 with fail
 rw [← hwA]
 clear hwA
 obtain ⟨A, hA⟩ : ∃ A, A = w.heap.size := ⟨_, rfl⟩
 rw [← hA] at HK ⊢
 have HA := hdn hA
 clear hA
 obtain ⟨wB, hwB⟩ : ∃ wB : World, wB = wA.alloc (.cells #[.string ⟨#[63]⟩, .string ⟨#[32, 61, 61, 32]⟩, .string ⟨#[32, 33, 61, 32]⟩, .string ⟨#[32, 60, 32]⟩, .string ⟨#[32, 62, 61, 32]⟩] 9) := ⟨_, rfl⟩
 have HBB : Hid (Below wA.heap.size wA wB) := hdn (by rw [hwB]; exact (Below.refl _ _).alloc (Nat.le_refl _) _)
 have HKB : Hid (Bk wB wA.heap.size 9 #[.string ⟨#[63]⟩, .string ⟨#[32, 61, 61, 32]⟩, .string ⟨#[32, 33, 61, 32]⟩, .string ⟨#[32, 60, 32]⟩, .string ⟨#[32, 62, 61, 32]⟩]) := hdn (by rw [hwB]; exact heap_alloc_new _ _)
 have HK2 := hdn (HK.out.below HBB.out HK.out.lt)
 have HB2 := hdn (HBA.out.trans (HBB.out.mono HBA.out.size))
 go_upto_region 2 with fail
 rw [← hwB]
 clear hwB
 obtain ⟨G, hG⟩ : ∃ G, G = wA.heap.size := ⟨_, rfl⟩
 rw [← hG] at HKB ⊢
 clear hG
 have c0 : wB.cell? ⟨A, 0, none⟩ = some (.int .i64 c.kind) := HK2.out.cell 0
 have CL : ∀ dd os, Calls Tryz.prog 70 #[.agg #[.int .i64 c.left.kind, .int .i64 c.left.pos, .string c.left.path.name, .int .i64 c.left.path.pos, .slice c.left.path.hops.p c.left.path.hops.l.length c.left.path.hops.cap, .string c.left.type, .string c.left.left.name, .int .i64 c.left.left.n, .int .i64 c.left.left.pos, .string c.left.right.name, .int .i64 c.left.right.n, .int .i64 c.left.right.pos]] (grow (redrawn wB dd) os) fun en w'' => en = .returned (.string (bt (Pn.valT c.left))) ∧ ∃ p : Regrown, w'' = grow (redrawn wB p.d) p.os :=
  fun dd os => Calls.regrown_of (valT_any hD c.left _ (vlLies_below (vlLies_below Z_l.out HB2.out) (below_regrown _ _ _)) V_l.out)
 have CR : ∀ dd os, Calls Tryz.prog 70 #[.agg #[.int .i64 c.right.kind, .int .i64 c.right.pos, .string c.right.path.name, .int .i64 c.right.path.pos, .slice c.right.path.hops.p c.right.path.hops.l.length c.right.path.hops.cap, .string c.right.type, .string c.right.left.name, .int .i64 c.right.left.n, .int .i64 c.right.left.pos, .string c.right.right.name, .int .i64 c.right.right.n, .int .i64 c.right.right.pos]] (grow (redrawn wB dd) os) fun en w'' => en = .returned (.string (bt (Pn.valT c.right))) ∧ ∃ p : Regrown, w'' = grow (redrawn wB p.d) p.os :=
  fun dd os => Calls.regrown_of (valT_any hD c.right _ (vlLies_below (vlLies_below Z_r.out HB2.out) (below_regrown _ _ _)) V_r.out)
 have HRL : Hid (∀ w', (∃ p : Regrown, w' = grow (redrawn wB p.d) p.os) → w'.rangeAt A 2 (#[.int .i64 c.left.kind, .int .i64 c.left.pos, .string c.left.path.name, .int .i64 c.left.path.pos, .slice c.left.path.hops.p c.left.path.hops.l.length c.left.path.hops.cap, .string c.left.type, .string c.left.left.name, .int .i64 c.left.left.n, .int .i64 c.left.left.pos, .string c.left.right.name, .int .i64 c.left.right.n, .int .i64 c.left.right.pos] : Array Value).toList) := hdn (fun w' hw' => by
  obtain ⟨p, rfl⟩ := hw'
  have := rangeAt_sub (rangeAt_below HK2.out.range (below_regrown wB p.d p.os)) 2 12 rfl
  rwa [Nat.zero_add] at this)
 have HRR : Hid (∀ w', (∃ p : Regrown, w' = grow (redrawn wB p.d) p.os) → w'.rangeAt A 14 (#[.int .i64 c.right.kind, .int .i64 c.right.pos, .string c.right.path.name, .int .i64 c.right.path.pos, .slice c.right.path.hops.p c.right.path.hops.l.length c.right.path.hops.cap, .string c.right.type, .string c.right.left.name, .int .i64 c.right.left.n, .int .i64 c.right.left.pos, .string c.right.right.name, .int .i64 c.right.right.n, .int .i64 c.right.right.pos] : Array Value).toList) := hdn (fun w' hw' => by
  obtain ⟨p, rfl⟩ := hw'
  have := rangeAt_sub (rangeAt_below HK2.out.range (below_regrown wB p.d p.os)) 14 12 rfl
  rwa [Nat.zero_add] at this)
 have k0 := cell_regrown c0
 have g2 : wB.cell? ⟨G, 2, none⟩ = some (.string ⟨#[32, 33, 61, 32]⟩) := HKB.out.cell 2
 have gk := cell_regrown g2
 have HE : Hid (bt (Pn.valT c.left ++ [32, 33, 61, 32] ++ Pn.valT c.right) = bt (Pn.valT c.left) ++ ⟨#[32, 33, 61, 32]⟩ ++ bt (Pn.valT c.right)) := hdn (ba_ext (by simp [bt]))
 have sl := S_l.out
 have sr := S_r.out
 generalize bt (Pn.valT c.left) = tl at *
 generalize bt (Pn.valT c.right) = tr at *
 have k := Z_k.out
 go_wp2_with fail
 refine wp_region_quiet_below (by kernel_rfl) (by kernel_rfl) ?_
 repeat (first | ((with_reducible show wpQuiet _ _ _ _ (Oper.mk (some 9) _ _ _ _ _ :: _) _); refine wpQuiet_load rfl 49 (.tmp 8) rfl A 2 rfl #[.int .i64 c.left.kind, .int .i64 c.left.pos, .string c.left.path.name, .int .i64 c.left.path.pos, .slice c.left.path.hops.p c.left.path.hops.l.length c.left.path.hops.cap, .string c.left.type, .string c.left.left.name, .int .i64 c.left.left.n, .int .i64 c.left.left.pos, .string c.left.right.name, .int .i64 c.left.right.n, .int .i64 c.left.right.pos] _ HRL.out Tryz.underlying49 rfl size52 ?_; simp only [Act.put, List.setIfInBounds_toArray, List.set_cons_zero, List.set_cons_succ]) | ((with_reducible show wpQuiet _ _ _ _ (Oper.mk (some 18) _ _ _ _ _ :: _) _); refine wpQuiet_load rfl 49 (.tmp 17) rfl A 14 rfl #[.int .i64 c.right.kind, .int .i64 c.right.pos, .string c.right.path.name, .int .i64 c.right.path.pos, .slice c.right.path.hops.p c.right.path.hops.l.length c.right.path.hops.cap, .string c.right.type, .string c.right.left.name, .int .i64 c.right.left.n, .int .i64 c.right.left.pos, .string c.right.right.name, .int .i64 c.right.right.n, .int .i64 c.right.right.pos] _ HRR.out Tryz.underlying49 rfl size52 ?_; simp only [Act.put, List.setIfInBounds_toArray, List.set_cons_zero, List.set_cons_succ]) | (go_big_quiet_step (first | (with_reducible exact CL _ _) | (with_reducible exact CR _ _))))
 refine wpQuiet_nil ?_
 intro _ hw'
 obtain ⟨⟨dq, osq⟩, hw''⟩ := hw'
 subst hw''
 have HB3 := hdn (below_regrown wB dq osq)
 generalize grow (redrawn wB dq) osq = w3 at HB3 ⊢
 go_wp2_with fail
 go_ret
 exact ⟨ret_text HE.out.symm, HB2.out.trans (HB3.out.mono HB2.out.size)⟩
theorem cond_t3 (hD : DigOk) (c : Cd) (w : World) (k : c.kind = 3) (hl : vlLies w c.left) (hr : vlLies w c.right) (ol : Pn.okSide c.left = true) (orr : Pn.okSide c.right = true) :
  Calls Tryz.prog 71 #[.agg #[.int .i64 c.kind, .int .i64 c.pos, .int .i64 c.left.kind, .int .i64 c.left.pos, .string c.left.path.name, .int .i64 c.left.path.pos, .slice c.left.path.hops.p c.left.path.hops.l.length c.left.path.hops.cap, .string c.left.type, .string c.left.left.name, .int .i64 c.left.left.n, .int .i64 c.left.left.pos, .string c.left.right.name, .int .i64 c.left.right.n, .int .i64 c.left.right.pos, .int .i64 c.right.kind, .int .i64 c.right.pos, .string c.right.path.name, .int .i64 c.right.path.pos, .slice c.right.path.hops.p c.right.path.hops.l.length c.right.path.hops.cap, .string c.right.type, .string c.right.left.name, .int .i64 c.right.left.n, .int .i64 c.right.left.pos, .string c.right.right.name, .int .i64 c.right.right.n, .int .i64 c.right.right.pos]] w fun e w' => e = .returned (.string (bt (Pn.valT c.left ++ [32, 60, 32] ++ Pn.valT c.right))) ∧ Below w.heap.size w w' := by
 have Z_k := hdn k; have Z_l := hdn hl; have Z_r := hdn hr
 have vl : Pn.okVal c.left = true := by unfold Pn.okSide at ol; simp only [Bool.and_eq_true] at ol; exact ol.1
 have vr : Pn.okVal c.right = true := by unfold Pn.okSide at orr; simp only [Bool.and_eq_true] at orr; exact orr.1
 have V_l := hdn vl; have V_r := hdn vr
 have S_l : Hid ((bt (Pn.valT c.left)).size ≤ 200) := hdn (side_len ol)
 have S_r : Hid ((bt (Pn.valT c.right)).size ≤ 200) := hdn (side_len orr)
 clear k hl hr vl vr ol orr
 obtain ⟨wA, hwA⟩ : ∃ wA : World, wA = w.alloc (.cells #[.int .i64 c.kind, .int .i64 c.pos, .int .i64 c.left.kind, .int .i64 c.left.pos, .string c.left.path.name, .int .i64 c.left.path.pos, .slice c.left.path.hops.p c.left.path.hops.l.length c.left.path.hops.cap, .string c.left.type, .string c.left.left.name, .int .i64 c.left.left.n, .int .i64 c.left.left.pos, .string c.left.right.name, .int .i64 c.left.right.n, .int .i64 c.left.right.pos, .int .i64 c.right.kind, .int .i64 c.right.pos, .string c.right.path.name, .int .i64 c.right.path.pos, .slice c.right.path.hops.p c.right.path.hops.l.length c.right.path.hops.cap, .string c.right.type, .string c.right.left.name, .int .i64 c.right.left.n, .int .i64 c.right.left.pos, .string c.right.right.name, .int .i64 c.right.right.n, .int .i64 c.right.right.pos] 51) := ⟨_, rfl⟩
 have HBA : Hid (Below w.heap.size w wA) := hdn (by rw [hwA]; exact (Below.refl _ _).alloc (Nat.le_refl _) _)
 have HK : Hid (Bk wA w.heap.size 51 #[.int .i64 c.kind, .int .i64 c.pos, .int .i64 c.left.kind, .int .i64 c.left.pos, .string c.left.path.name, .int .i64 c.left.path.pos, .slice c.left.path.hops.p c.left.path.hops.l.length c.left.path.hops.cap, .string c.left.type, .string c.left.left.name, .int .i64 c.left.left.n, .int .i64 c.left.left.pos, .string c.left.right.name, .int .i64 c.left.right.n, .int .i64 c.left.right.pos, .int .i64 c.right.kind, .int .i64 c.right.pos, .string c.right.path.name, .int .i64 c.right.path.pos, .slice c.right.path.hops.p c.right.path.hops.l.length c.right.path.hops.cap, .string c.right.type, .string c.right.left.name, .int .i64 c.right.left.n, .int .i64 c.right.left.pos, .string c.right.right.name, .int .i64 c.right.right.n, .int .i64 c.right.right.pos]) := hdn (by rw [hwA]; exact heap_alloc_new _ _)
 go_enter Tryz.func71, Tryz.ntmps71
 go_upto_region 1 with fail
 rw [← hwA]
 clear hwA
 obtain ⟨A, hA⟩ : ∃ A, A = w.heap.size := ⟨_, rfl⟩
 rw [← hA] at HK ⊢
 have HA := hdn hA
 clear hA
 obtain ⟨wB, hwB⟩ : ∃ wB : World, wB = wA.alloc (.cells #[.string ⟨#[63]⟩, .string ⟨#[32, 61, 61, 32]⟩, .string ⟨#[32, 33, 61, 32]⟩, .string ⟨#[32, 60, 32]⟩, .string ⟨#[32, 62, 61, 32]⟩] 9) := ⟨_, rfl⟩
 have HBB : Hid (Below wA.heap.size wA wB) := hdn (by rw [hwB]; exact (Below.refl _ _).alloc (Nat.le_refl _) _)
 have HKB : Hid (Bk wB wA.heap.size 9 #[.string ⟨#[63]⟩, .string ⟨#[32, 61, 61, 32]⟩, .string ⟨#[32, 33, 61, 32]⟩, .string ⟨#[32, 60, 32]⟩, .string ⟨#[32, 62, 61, 32]⟩]) := hdn (by rw [hwB]; exact heap_alloc_new _ _)
 have HK2 := hdn (HK.out.below HBB.out HK.out.lt)
 have HB2 := hdn (HBA.out.trans (HBB.out.mono HBA.out.size))
 go_upto_region 2 with fail
 rw [← hwB]
 clear hwB
 obtain ⟨G, hG⟩ : ∃ G, G = wA.heap.size := ⟨_, rfl⟩
 rw [← hG] at HKB ⊢
 clear hG
 have c0 : wB.cell? ⟨A, 0, none⟩ = some (.int .i64 c.kind) := HK2.out.cell 0
 have CL : ∀ dd os, Calls Tryz.prog 70 #[.agg #[.int .i64 c.left.kind, .int .i64 c.left.pos, .string c.left.path.name, .int .i64 c.left.path.pos, .slice c.left.path.hops.p c.left.path.hops.l.length c.left.path.hops.cap, .string c.left.type, .string c.left.left.name, .int .i64 c.left.left.n, .int .i64 c.left.left.pos, .string c.left.right.name, .int .i64 c.left.right.n, .int .i64 c.left.right.pos]] (grow (redrawn wB dd) os) fun en w'' => en = .returned (.string (bt (Pn.valT c.left))) ∧ ∃ p : Regrown, w'' = grow (redrawn wB p.d) p.os :=
  fun dd os => Calls.regrown_of (valT_any hD c.left _ (vlLies_below (vlLies_below Z_l.out HB2.out) (below_regrown _ _ _)) V_l.out)
 have CR : ∀ dd os, Calls Tryz.prog 70 #[.agg #[.int .i64 c.right.kind, .int .i64 c.right.pos, .string c.right.path.name, .int .i64 c.right.path.pos, .slice c.right.path.hops.p c.right.path.hops.l.length c.right.path.hops.cap, .string c.right.type, .string c.right.left.name, .int .i64 c.right.left.n, .int .i64 c.right.left.pos, .string c.right.right.name, .int .i64 c.right.right.n, .int .i64 c.right.right.pos]] (grow (redrawn wB dd) os) fun en w'' => en = .returned (.string (bt (Pn.valT c.right))) ∧ ∃ p : Regrown, w'' = grow (redrawn wB p.d) p.os :=
  fun dd os => Calls.regrown_of (valT_any hD c.right _ (vlLies_below (vlLies_below Z_r.out HB2.out) (below_regrown _ _ _)) V_r.out)
 have HRL : Hid (∀ w', (∃ p : Regrown, w' = grow (redrawn wB p.d) p.os) → w'.rangeAt A 2 (#[.int .i64 c.left.kind, .int .i64 c.left.pos, .string c.left.path.name, .int .i64 c.left.path.pos, .slice c.left.path.hops.p c.left.path.hops.l.length c.left.path.hops.cap, .string c.left.type, .string c.left.left.name, .int .i64 c.left.left.n, .int .i64 c.left.left.pos, .string c.left.right.name, .int .i64 c.left.right.n, .int .i64 c.left.right.pos] : Array Value).toList) := hdn (fun w' hw' => by
  obtain ⟨p, rfl⟩ := hw'
  have := rangeAt_sub (rangeAt_below HK2.out.range (below_regrown wB p.d p.os)) 2 12 rfl
  rwa [Nat.zero_add] at this)
 have HRR : Hid (∀ w', (∃ p : Regrown, w' = grow (redrawn wB p.d) p.os) → w'.rangeAt A 14 (#[.int .i64 c.right.kind, .int .i64 c.right.pos, .string c.right.path.name, .int .i64 c.right.path.pos, .slice c.right.path.hops.p c.right.path.hops.l.length c.right.path.hops.cap, .string c.right.type, .string c.right.left.name, .int .i64 c.right.left.n, .int .i64 c.right.left.pos, .string c.right.right.name, .int .i64 c.right.right.n, .int .i64 c.right.right.pos] : Array Value).toList) := hdn (fun w' hw' => by
  obtain ⟨p, rfl⟩ := hw'
  have := rangeAt_sub (rangeAt_below HK2.out.range (below_regrown wB p.d p.os)) 14 12 rfl
  rwa [Nat.zero_add] at this)
 have k0 := cell_regrown c0
 have g3 : wB.cell? ⟨G, 3, none⟩ = some (.string ⟨#[32, 60, 32]⟩) := HKB.out.cell 3
 have gk := cell_regrown g3
 have HE : Hid (bt (Pn.valT c.left ++ [32, 60, 32] ++ Pn.valT c.right) = bt (Pn.valT c.left) ++ ⟨#[32, 60, 32]⟩ ++ bt (Pn.valT c.right)) := hdn (ba_ext (by simp [bt]))
 have sl := S_l.out
 have sr := S_r.out
 generalize bt (Pn.valT c.left) = tl at *
 generalize bt (Pn.valT c.right) = tr at *
 have k := Z_k.out
 go_wp2_with fail
 refine wp_region_quiet_below (by kernel_rfl) (by kernel_rfl) ?_
 repeat (first | ((with_reducible show wpQuiet _ _ _ _ (Oper.mk (some 9) _ _ _ _ _ :: _) _); refine wpQuiet_load rfl 49 (.tmp 8) rfl A 2 rfl #[.int .i64 c.left.kind, .int .i64 c.left.pos, .string c.left.path.name, .int .i64 c.left.path.pos, .slice c.left.path.hops.p c.left.path.hops.l.length c.left.path.hops.cap, .string c.left.type, .string c.left.left.name, .int .i64 c.left.left.n, .int .i64 c.left.left.pos, .string c.left.right.name, .int .i64 c.left.right.n, .int .i64 c.left.right.pos] _ HRL.out Tryz.underlying49 rfl size52 ?_; simp only [Act.put, List.setIfInBounds_toArray, List.set_cons_zero, List.set_cons_succ]) | ((with_reducible show wpQuiet _ _ _ _ (Oper.mk (some 18) _ _ _ _ _ :: _) _); refine wpQuiet_load rfl 49 (.tmp 17) rfl A 14 rfl #[.int .i64 c.right.kind, .int .i64 c.right.pos, .string c.right.path.name, .int .i64 c.right.path.pos, .slice c.right.path.hops.p c.right.path.hops.l.length c.right.path.hops.cap, .string c.right.type, .string c.right.left.name, .int .i64 c.right.left.n, .int .i64 c.right.left.pos, .string c.right.right.name, .int .i64 c.right.right.n, .int .i64 c.right.right.pos] _ HRR.out Tryz.underlying49 rfl size52 ?_; simp only [Act.put, List.setIfInBounds_toArray, List.set_cons_zero, List.set_cons_succ]) | (go_big_quiet_step (first | (with_reducible exact CL _ _) | (with_reducible exact CR _ _))))
 refine wpQuiet_nil ?_
 intro _ hw'
 obtain ⟨⟨dq, osq⟩, hw''⟩ := hw'
 subst hw''
 have HB3 := hdn (below_regrown wB dq osq)
 generalize grow (redrawn wB dq) osq = w3 at HB3 ⊢
 go_wp2_with fail
 go_ret
 exact ⟨ret_text HE.out.symm, HB2.out.trans (HB3.out.mono HB2.out.size)⟩
theorem cond_t4 (hD : DigOk) (c : Cd) (w : World) (k : c.kind = 4) (hl : vlLies w c.left) (hr : vlLies w c.right) (ol : Pn.okSide c.left = true) (orr : Pn.okSide c.right = true) :
  Calls Tryz.prog 71 #[.agg #[.int .i64 c.kind, .int .i64 c.pos, .int .i64 c.left.kind, .int .i64 c.left.pos, .string c.left.path.name, .int .i64 c.left.path.pos, .slice c.left.path.hops.p c.left.path.hops.l.length c.left.path.hops.cap, .string c.left.type, .string c.left.left.name, .int .i64 c.left.left.n, .int .i64 c.left.left.pos, .string c.left.right.name, .int .i64 c.left.right.n, .int .i64 c.left.right.pos, .int .i64 c.right.kind, .int .i64 c.right.pos, .string c.right.path.name, .int .i64 c.right.path.pos, .slice c.right.path.hops.p c.right.path.hops.l.length c.right.path.hops.cap, .string c.right.type, .string c.right.left.name, .int .i64 c.right.left.n, .int .i64 c.right.left.pos, .string c.right.right.name, .int .i64 c.right.right.n, .int .i64 c.right.right.pos]] w fun e w' => e = .returned (.string (bt (Pn.valT c.left ++ [32, 62, 61, 32] ++ Pn.valT c.right))) ∧ Below w.heap.size w w' := by
 have Z_k := hdn k; have Z_l := hdn hl; have Z_r := hdn hr
 have vl : Pn.okVal c.left = true := by unfold Pn.okSide at ol; simp only [Bool.and_eq_true] at ol; exact ol.1
 have vr : Pn.okVal c.right = true := by unfold Pn.okSide at orr; simp only [Bool.and_eq_true] at orr; exact orr.1
 have V_l := hdn vl; have V_r := hdn vr
 have S_l : Hid ((bt (Pn.valT c.left)).size ≤ 200) := hdn (side_len ol)
 have S_r : Hid ((bt (Pn.valT c.right)).size ≤ 200) := hdn (side_len orr)
 clear k hl hr vl vr ol orr
 obtain ⟨wA, hwA⟩ : ∃ wA : World, wA = w.alloc (.cells #[.int .i64 c.kind, .int .i64 c.pos, .int .i64 c.left.kind, .int .i64 c.left.pos, .string c.left.path.name, .int .i64 c.left.path.pos, .slice c.left.path.hops.p c.left.path.hops.l.length c.left.path.hops.cap, .string c.left.type, .string c.left.left.name, .int .i64 c.left.left.n, .int .i64 c.left.left.pos, .string c.left.right.name, .int .i64 c.left.right.n, .int .i64 c.left.right.pos, .int .i64 c.right.kind, .int .i64 c.right.pos, .string c.right.path.name, .int .i64 c.right.path.pos, .slice c.right.path.hops.p c.right.path.hops.l.length c.right.path.hops.cap, .string c.right.type, .string c.right.left.name, .int .i64 c.right.left.n, .int .i64 c.right.left.pos, .string c.right.right.name, .int .i64 c.right.right.n, .int .i64 c.right.right.pos] 51) := ⟨_, rfl⟩
 have HBA : Hid (Below w.heap.size w wA) := hdn (by rw [hwA]; exact (Below.refl _ _).alloc (Nat.le_refl _) _)
 have HK : Hid (Bk wA w.heap.size 51 #[.int .i64 c.kind, .int .i64 c.pos, .int .i64 c.left.kind, .int .i64 c.left.pos, .string c.left.path.name, .int .i64 c.left.path.pos, .slice c.left.path.hops.p c.left.path.hops.l.length c.left.path.hops.cap, .string c.left.type, .string c.left.left.name, .int .i64 c.left.left.n, .int .i64 c.left.left.pos, .string c.left.right.name, .int .i64 c.left.right.n, .int .i64 c.left.right.pos, .int .i64 c.right.kind, .int .i64 c.right.pos, .string c.right.path.name, .int .i64 c.right.path.pos, .slice c.right.path.hops.p c.right.path.hops.l.length c.right.path.hops.cap, .string c.right.type, .string c.right.left.name, .int .i64 c.right.left.n, .int .i64 c.right.left.pos, .string c.right.right.name, .int .i64 c.right.right.n, .int .i64 c.right.right.pos]) := hdn (by rw [hwA]; exact heap_alloc_new _ _)
 go_enter Tryz.func71, Tryz.ntmps71
 go_upto_region 1 with fail
 rw [← hwA]
 clear hwA
 obtain ⟨A, hA⟩ : ∃ A, A = w.heap.size := ⟨_, rfl⟩
 rw [← hA] at HK ⊢
 have HA := hdn hA
 clear hA
 obtain ⟨wB, hwB⟩ : ∃ wB : World, wB = wA.alloc (.cells #[.string ⟨#[63]⟩, .string ⟨#[32, 61, 61, 32]⟩, .string ⟨#[32, 33, 61, 32]⟩, .string ⟨#[32, 60, 32]⟩, .string ⟨#[32, 62, 61, 32]⟩] 9) := ⟨_, rfl⟩
 have HBB : Hid (Below wA.heap.size wA wB) := hdn (by rw [hwB]; exact (Below.refl _ _).alloc (Nat.le_refl _) _)
 have HKB : Hid (Bk wB wA.heap.size 9 #[.string ⟨#[63]⟩, .string ⟨#[32, 61, 61, 32]⟩, .string ⟨#[32, 33, 61, 32]⟩, .string ⟨#[32, 60, 32]⟩, .string ⟨#[32, 62, 61, 32]⟩]) := hdn (by rw [hwB]; exact heap_alloc_new _ _)
 have HK2 := hdn (HK.out.below HBB.out HK.out.lt)
 have HB2 := hdn (HBA.out.trans (HBB.out.mono HBA.out.size))
 go_upto_region 2 with fail
 rw [← hwB]
 clear hwB
 obtain ⟨G, hG⟩ : ∃ G, G = wA.heap.size := ⟨_, rfl⟩
 rw [← hG] at HKB ⊢
 clear hG
 have c0 : wB.cell? ⟨A, 0, none⟩ = some (.int .i64 c.kind) := HK2.out.cell 0
 have CL : ∀ dd os, Calls Tryz.prog 70 #[.agg #[.int .i64 c.left.kind, .int .i64 c.left.pos, .string c.left.path.name, .int .i64 c.left.path.pos, .slice c.left.path.hops.p c.left.path.hops.l.length c.left.path.hops.cap, .string c.left.type, .string c.left.left.name, .int .i64 c.left.left.n, .int .i64 c.left.left.pos, .string c.left.right.name, .int .i64 c.left.right.n, .int .i64 c.left.right.pos]] (grow (redrawn wB dd) os) fun en w'' => en = .returned (.string (bt (Pn.valT c.left))) ∧ ∃ p : Regrown, w'' = grow (redrawn wB p.d) p.os :=
  fun dd os => Calls.regrown_of (valT_any hD c.left _ (vlLies_below (vlLies_below Z_l.out HB2.out) (below_regrown _ _ _)) V_l.out)
 have CR : ∀ dd os, Calls Tryz.prog 70 #[.agg #[.int .i64 c.right.kind, .int .i64 c.right.pos, .string c.right.path.name, .int .i64 c.right.path.pos, .slice c.right.path.hops.p c.right.path.hops.l.length c.right.path.hops.cap, .string c.right.type, .string c.right.left.name, .int .i64 c.right.left.n, .int .i64 c.right.left.pos, .string c.right.right.name, .int .i64 c.right.right.n, .int .i64 c.right.right.pos]] (grow (redrawn wB dd) os) fun en w'' => en = .returned (.string (bt (Pn.valT c.right))) ∧ ∃ p : Regrown, w'' = grow (redrawn wB p.d) p.os :=
  fun dd os => Calls.regrown_of (valT_any hD c.right _ (vlLies_below (vlLies_below Z_r.out HB2.out) (below_regrown _ _ _)) V_r.out)
 have HRL : Hid (∀ w', (∃ p : Regrown, w' = grow (redrawn wB p.d) p.os) → w'.rangeAt A 2 (#[.int .i64 c.left.kind, .int .i64 c.left.pos, .string c.left.path.name, .int .i64 c.left.path.pos, .slice c.left.path.hops.p c.left.path.hops.l.length c.left.path.hops.cap, .string c.left.type, .string c.left.left.name, .int .i64 c.left.left.n, .int .i64 c.left.left.pos, .string c.left.right.name, .int .i64 c.left.right.n, .int .i64 c.left.right.pos] : Array Value).toList) := hdn (fun w' hw' => by
  obtain ⟨p, rfl⟩ := hw'
  have := rangeAt_sub (rangeAt_below HK2.out.range (below_regrown wB p.d p.os)) 2 12 rfl
  rwa [Nat.zero_add] at this)
 have HRR : Hid (∀ w', (∃ p : Regrown, w' = grow (redrawn wB p.d) p.os) → w'.rangeAt A 14 (#[.int .i64 c.right.kind, .int .i64 c.right.pos, .string c.right.path.name, .int .i64 c.right.path.pos, .slice c.right.path.hops.p c.right.path.hops.l.length c.right.path.hops.cap, .string c.right.type, .string c.right.left.name, .int .i64 c.right.left.n, .int .i64 c.right.left.pos, .string c.right.right.name, .int .i64 c.right.right.n, .int .i64 c.right.right.pos] : Array Value).toList) := hdn (fun w' hw' => by
  obtain ⟨p, rfl⟩ := hw'
  have := rangeAt_sub (rangeAt_below HK2.out.range (below_regrown wB p.d p.os)) 14 12 rfl
  rwa [Nat.zero_add] at this)
 have k0 := cell_regrown c0
 have g4 : wB.cell? ⟨G, 4, none⟩ = some (.string ⟨#[32, 62, 61, 32]⟩) := HKB.out.cell 4
 have gk := cell_regrown g4
 have HE : Hid (bt (Pn.valT c.left ++ [32, 62, 61, 32] ++ Pn.valT c.right) = bt (Pn.valT c.left) ++ ⟨#[32, 62, 61, 32]⟩ ++ bt (Pn.valT c.right)) := hdn (ba_ext (by simp [bt]))
 have sl := S_l.out
 have sr := S_r.out
 generalize bt (Pn.valT c.left) = tl at *
 generalize bt (Pn.valT c.right) = tr at *
 have k := Z_k.out
 go_wp2_with fail
 refine wp_region_quiet_below (by kernel_rfl) (by kernel_rfl) ?_
 repeat (first | ((with_reducible show wpQuiet _ _ _ _ (Oper.mk (some 9) _ _ _ _ _ :: _) _); refine wpQuiet_load rfl 49 (.tmp 8) rfl A 2 rfl #[.int .i64 c.left.kind, .int .i64 c.left.pos, .string c.left.path.name, .int .i64 c.left.path.pos, .slice c.left.path.hops.p c.left.path.hops.l.length c.left.path.hops.cap, .string c.left.type, .string c.left.left.name, .int .i64 c.left.left.n, .int .i64 c.left.left.pos, .string c.left.right.name, .int .i64 c.left.right.n, .int .i64 c.left.right.pos] _ HRL.out Tryz.underlying49 rfl size52 ?_; simp only [Act.put, List.setIfInBounds_toArray, List.set_cons_zero, List.set_cons_succ]) | ((with_reducible show wpQuiet _ _ _ _ (Oper.mk (some 18) _ _ _ _ _ :: _) _); refine wpQuiet_load rfl 49 (.tmp 17) rfl A 14 rfl #[.int .i64 c.right.kind, .int .i64 c.right.pos, .string c.right.path.name, .int .i64 c.right.path.pos, .slice c.right.path.hops.p c.right.path.hops.l.length c.right.path.hops.cap, .string c.right.type, .string c.right.left.name, .int .i64 c.right.left.n, .int .i64 c.right.left.pos, .string c.right.right.name, .int .i64 c.right.right.n, .int .i64 c.right.right.pos] _ HRR.out Tryz.underlying49 rfl size52 ?_; simp only [Act.put, List.setIfInBounds_toArray, List.set_cons_zero, List.set_cons_succ]) | (go_big_quiet_step (first | (with_reducible exact CL _ _) | (with_reducible exact CR _ _))))
 refine wpQuiet_nil ?_
 intro _ hw'
 obtain ⟨⟨dq, osq⟩, hw''⟩ := hw'
 subst hw''
 have HB3 := hdn (below_regrown wB dq osq)
 generalize grow (redrawn wB dq) osq = w3 at HB3 ⊢
 go_wp2_with fail
 go_ret
 exact ⟨ret_text HE.out.symm, HB2.out.trans (HB3.out.mono HB2.out.size)⟩
/-- The document's text of a condition. -/
theorem condT_any (hD : DigOk) (c : Cd) (w : World) (hl : vlLies w c.left) (hr : vlLies w c.right) (ho : Pn.okCond c = true) :
  Calls Tryz.prog 71 #[.agg #[.int .i64 c.kind, .int .i64 c.pos, .int .i64 c.left.kind, .int .i64 c.left.pos, .string c.left.path.name, .int .i64 c.left.path.pos, .slice c.left.path.hops.p c.left.path.hops.l.length c.left.path.hops.cap, .string c.left.type, .string c.left.left.name, .int .i64 c.left.left.n, .int .i64 c.left.left.pos, .string c.left.right.name, .int .i64 c.left.right.n, .int .i64 c.left.right.pos, .int .i64 c.right.kind, .int .i64 c.right.pos, .string c.right.path.name, .int .i64 c.right.path.pos, .slice c.right.path.hops.p c.right.path.hops.l.length c.right.path.hops.cap, .string c.right.type, .string c.right.left.name, .int .i64 c.right.left.n, .int .i64 c.right.left.pos, .string c.right.right.name, .int .i64 c.right.right.n, .int .i64 c.right.right.pos]] w fun e w' => e = .returned (.string (bt (Pn.condT c))) ∧ Below w.heap.size w w' := by
 unfold Pn.okCond at ho
 unfold Pn.condT
 by_cases k0 : c.kind = 0
 ·rw [if_pos k0]; exact cond_t0 c w k0
 rw [if_neg k0] at ho ⊢
 simp only [Bool.and_eq_true, decide_eq_true_eq] at ho
 have hk : c.kind = 1 ∨ c.kind = 2 ∨ c.kind = 3 ∨ c.kind = 4 := by omega
 rcases hk with k | k | k | k
 ·rw [show Pn.valT c.left ++ [32] ++ Pn.relT c.kind ++ [32] ++ Pn.valT c.right = Pn.valT c.left ++ [32, 61, 61, 32] ++ Pn.valT c.right from by rw [k]; simp [Pn.relT]]
  exact cond_t1 hD c w k hl hr ho.1.2 ho.2
 ·rw [show Pn.valT c.left ++ [32] ++ Pn.relT c.kind ++ [32] ++ Pn.valT c.right = Pn.valT c.left ++ [32, 33, 61, 32] ++ Pn.valT c.right from by rw [k]; simp [Pn.relT]]
  exact cond_t2 hD c w k hl hr ho.1.2 ho.2
 ·rw [show Pn.valT c.left ++ [32] ++ Pn.relT c.kind ++ [32] ++ Pn.valT c.right = Pn.valT c.left ++ [32, 60, 32] ++ Pn.valT c.right from by rw [k]; simp [Pn.relT]]
  exact cond_t3 hD c w k hl hr ho.1.2 ho.2
 ·rw [show Pn.valT c.left ++ [32] ++ Pn.relT c.kind ++ [32] ++ Pn.valT c.right = Pn.valT c.left ++ [32, 62, 61, 32] ++ Pn.valT c.right from by rw [k]; simp [Pn.relT]]
  exact cond_t4 hD c w k hl hr ho.1.2 ho.2
end Go.Proofs.YtdlchhimkelinaaGreatDoor
