/-
  DERIVED. The walks of 'are they the same': the document's SameList. The walks of 'are they the same': the document's, of programs.
-/
import Derived.Test.YtlpnkllhpienhaaDoorRsS
import Derived.Deep.RegionHeld3
namespace Go.Proofs.YtlpnkllhpienhaaDoor
open Go.RowKit Go.Sort

/-- In a region that draws its order and reads quietly: a struct's value out of the middle of a block. -/
theorem wpQuiet_load {P : Program} {ops : Array Oper} {C : World → Prop} {Q : Act → Prop} {a : Act} {o : Oper} {rest : List Oper} (hw : Region.wanted o (yielded ops a.tmps) = true) (ty : TypeId) (x : Operand) (ho : o.op = .load ty x)
    (b q : Nat) (hx : a.eval x = .pointer (some ⟨b, q, none⟩)) (cs : Array Value) (d : TypeDesc) (hc : ∀ w, C w → w.rangeAt b q cs.toList) (hu : P.underlying ty = some d) (hd : d.isRow = true) (hi : (P.info? ty).map (·.size) = some cs.size)
    (h : wpQuiet P ops C Q rest (a.put o.dst (.agg cs))) : wpQuiet P ops C Q (o :: rest) a := by
  refine BigFrame.wpQuiet_want hw fun K hK => ⟨.agg cs, fun w hw' => ?_, hK _ h⟩
  unfold Oper.quietAt execOp
  simp only [ho, hx, Instr.loadAt, Instr.sureAddr, Sem.run_bind, Sem.run_pure, Result.andThen_ok, run_loadVar_mid w b q ty cs.toList d (hc w hw') hu hd (by simpa using hi)]
  exact ⟨rfl, by simp⟩

set_option maxHeartbeats 6400000 in
set_option maxRecDepth 100000 in
theorem refList_one (sl : SL) (hP : sl.each okRL) : okRL sl := by
  intro sm p1 c1 p2 c2 w hs1 hs2
  have hOk : ∀ x ∈ sl.items, okRL x.t ∧ okRL x.e := SL.each_items hP
  have h1 := Lay.of_sLies hs1
  have h2 := Lay.of_sLies hs2
  rw [sameSL_items, ← SL.items_len, ← SL.items_len]
  clear hP hs1 hs2
  generalize sl.items = l at *
  generalize sm.items = m at *
  obtain ⟨hl1, h1⟩ := h1
  obtain ⟨hl2, h2⟩ := h2
  have H1 := Lib.hid h1
  have H2 := Lib.hid h2
  have HO := Lib.hid hOk
  clear h1 h2 hOk
  by_cases he : l.length = m.length
  · have heq : ((l.length : Int) != (m.length : Int)) = false := by rw [he]; simp
    have HE := Lib.hid he
    clear he
    go_enter Tryd.func13, Tryd.ntmps13
    go_wp2_with fail
    clear heq
    go_loopw [5] (fun i wr => ∃ k : Nat, i = .int .i64 k ∧ k ≤ l.length ∧ Hid (sameL sameIt (l.take k) (m.take k) = true) ∧ Hid (Below w.heap.size w wr)) (fun i _ => l.length - (intOf i).toNat)
    case atStart => exact ⟨0, rfl, Nat.zero_le _, Lib.hid rfl, Lib.hid (Below.refl _ _)⟩
    case round =>
      obtain ⟨k, rfl, hk, HT, HB⟩ := hrel
      by_cases hkl0 : k < l.length
      · have hkm : k < m.length := by have := HE.out; omega
        have hkl := hkm
        obtain ⟨b2, o2, rfl, h2x⟩ : ∃ b o, p2 = some ⟨b, o, none⟩ ∧ ∀ k x, m[k]? = some x → w.rangeAt b (o + k * 48) (It.cells x) ∧ itLies w x := by
          rcases H2.out with h | h
          · rw [h] at hkl; simp at hkl
          · exact h
        clear hkl
        have hkl := hkl0
        obtain ⟨b1, o1, rfl, h1x⟩ : ∃ b o, p1 = some ⟨b, o, none⟩ ∧ ∀ k x, l[k]? = some x → w.rangeAt b (o + k * 48) (It.cells x) ∧ itLies w x := by
          rcases H1.out with h | h
          · rw [h] at hkl; simp at hkl
          · exact h
        have hx1 := h1x k l[k] (List.getElem?_eq_getElem hkl)
        have hy1 := h2x k m[k] (List.getElem?_eq_getElem hkm)
        have hok := HO.out l[k] (List.getElem_mem _)
        have hst := sameL_step (f := sameIt) k hkl hkm
        have hat := sameL_at (f := sameIt) k hkl hkm
        have hk0 : (0 : Int) ≤ (k : Int) := Int.natCast_nonneg _
        have hk1 : (k : Int) < (l.length : Int) := by omega
        have hk2 : (k : Int) < (m.length : Int) := by omega
        generalize l[k] = xk at hx1 hst hat hok
        generalize m[k] = yk at hy1 hst hat
        obtain ⟨cx, hcx⟩ : ∃ cx, cx = xk.cells.toArray := ⟨_, rfl⟩
        obtain ⟨cy, hcy⟩ : ∃ cy, cy = yk.cells.toArray := ⟨_, rfl⟩
        have HRX : Hid (∀ w', (∃ p : Regrown, w' = grow (redrawn wr p.d) p.os) → w'.rangeAt b1 (o1 + k * 48) cx.toList) := Lib.hid (fun w' hw' => by
          obtain ⟨p, rfl⟩ := hw'
          rw [hcx]; exact rangeAt_below (rangeAt_below hx1.1 HB.out) (below_regrown _ _ _))
        have HRY : Hid (∀ w', (∃ p : Regrown, w' = grow (redrawn wr p.d) p.os) → w'.rangeAt b2 (o2 + k * 48) cy.toList) := Lib.hid (fun w' hw' => by
          obtain ⟨p, rfl⟩ := hw'
          rw [hcy]; exact rangeAt_below (rangeAt_below hy1.1 HB.out) (below_regrown _ _ _))
        have HSX : Hid ((Tryd.prog.info? 52).map (·.size) = some cx.size) := Lib.hid (by rw [hcx]; exact size57)
        have HSY : Hid ((Tryd.prog.info? 52).map (·.size) = some cy.size) := Lib.hid (by rw [hcy]; exact size57)
        have CV : ∀ dd os, Calls Tryd.prog 28 #[.agg cx, .agg cy] (grow (redrawn wr dd) os) fun en w'' => en = .returned (.bool (sameIt xk yk)) ∧ ∃ p : Regrown, w'' = grow (redrawn wr p.d) p.os :=
          fun dd os => Calls.regrown_of (refStmt_any xk yk hok.1 hok.2 cx cy hcx hcy _ (itLies_below (itLies_below hx1.2 HB.out) (below_regrown _ _ _)) (itLies_below (itLies_below hy1.2 HB.out) (below_regrown _ _ _)))
        generalize sameIt xk yk = vk at hst hat CV
        have HST := Lib.hid hst
        have HAT := Lib.hid hat
        clear h1x h2x hst hat hkl0 hx1 hy1 hok hcx hcy
        cases vk
        · go_wp2_with fail
          refine wp_region_quiet_below (by kernel_rfl) (by kernel_rfl) ?_
          repeat (first | ((with_reducible show wpQuiet _ _ _ _ (Oper.mk (some 20) _ _ _ _ _ :: _) _); refine wpQuiet_load rfl 52 (.tmp 19) rfl b1 (o1 + k * 48) rfl cx _ HRX.out Tryd.underlying52 rfl HSX.out ?_; simp only [Act.put, List.setIfInBounds_toArray, List.set_cons_succ, List.set_cons_zero]) | ((with_reducible show wpQuiet _ _ _ _ (Oper.mk (some 24) _ _ _ _ _ :: _) _); refine wpQuiet_load rfl 52 (.tmp 23) rfl b2 (o2 + k * 48) rfl cy _ HRY.out Tryd.underlying52 rfl HSY.out ?_; simp only [Act.put, List.setIfInBounds_toArray, List.set_cons_succ, List.set_cons_zero]) | go_big_quiet_step (with_reducible exact CV _ _))
          refine wpQuiet_nil ?_
          intro _ hw'
          obtain ⟨⟨dq, osq⟩, hw''⟩ := hw'
          subst hw''
          have HB3 := Lib.hid (below_regrown wr dq osq)
          generalize grow (redrawn wr dq) osq = w3 at HB3 ⊢
          go_wp2_with fail
          go_ret
          exact ⟨ret_bool (by rw [HAT.out (by first | rfl | trivial)]), HB.out.trans (HB3.out.mono HB.out.size)⟩
        · go_wp2_with fail
          refine wp_region_quiet_below (by kernel_rfl) (by kernel_rfl) ?_
          repeat (first | ((with_reducible show wpQuiet _ _ _ _ (Oper.mk (some 20) _ _ _ _ _ :: _) _); refine wpQuiet_load rfl 52 (.tmp 19) rfl b1 (o1 + k * 48) rfl cx _ HRX.out Tryd.underlying52 rfl HSX.out ?_; simp only [Act.put, List.setIfInBounds_toArray, List.set_cons_succ, List.set_cons_zero]) | ((with_reducible show wpQuiet _ _ _ _ (Oper.mk (some 24) _ _ _ _ _ :: _) _); refine wpQuiet_load rfl 52 (.tmp 23) rfl b2 (o2 + k * 48) rfl cy _ HRY.out Tryd.underlying52 rfl HSY.out ?_; simp only [Act.put, List.setIfInBounds_toArray, List.set_cons_succ, List.set_cons_zero]) | go_big_quiet_step (with_reducible exact CV _ _))
          refine wpQuiet_nil ?_
          intro _ hw'
          obtain ⟨⟨dq, osq⟩, hw''⟩ := hw'
          subst hw''
          have HB3 := Lib.hid (below_regrown wr dq osq)
          generalize grow (redrawn wr dq) osq = w3 at HB3 ⊢
          go_wp2_with fail
          go_roundw
          case rel => exact ⟨k + 1, by go_num, by omega, Lib.hid (by rw [HST.out, HT.out]; rfl), Lib.hid (HB.out.trans (HB3.out.mono HB.out.size))⟩
          case measure => simp [intOf]; omega
      · have HF : Hid (sameL sameIt l m = true) := Lib.hid (by
          have := HT.out
          rwa [List.take_of_length_le (by omega), List.take_of_length_le (by have := HE.out; omega)] at this)
        go_wp2_with fail
        go_ret
        exact ⟨ret_bool (by rw [HF.out]), HB.out⟩
  · have heq : ((l.length : Int) != (m.length : Int)) = true := by
      rw [bne_iff_ne]; intro e; exact he (by omega)
    rw [sameL_len he]
    clear he
    go_enter Tryd.func13, Tryd.ntmps13
    go_wp2_with fail
    go_ret
    exact ⟨rfl, Below.refl _ _⟩
theorem refList_any (l : SL) : okRL l := (SL.all refList_one l).1

end Go.Proofs.YtlpnkllhpienhaaDoor

namespace Go.Proofs.YtlpnkllhpienhaaDoor
open Go.RowKit Go.Sort

set_option maxHeartbeats 6400000 in
set_option maxRecDepth 100000 in
theorem refProgram_any (x y : Pg) (w : World) (rx : pgLies w x) (ry : pgLies w y) :
    Calls Tryd.prog 7 #[.agg #[.slice x.structs.p x.structs.l.length x.structs.cap, .slice x.globals.p x.globals.l.length x.globals.cap, .slice x.procs.p x.procs.l.length x.procs.cap], .agg #[.slice y.structs.p y.structs.l.length y.structs.cap, .slice y.globals.p y.globals.l.length y.globals.cap, .slice y.procs.p y.procs.l.length y.procs.cap]] w fun en w' => en = .returned (.bool (samePg x y)) ∧ Below w.heap.size w w' := by
  have h1 : Lay 3 Sr.cells srLies w x.structs.p x.structs.l := Lay.of_sl (srs_of rx.1) (by decide)
  have h2 : Lay 3 Sr.cells srLies w y.structs.p y.structs.l := Lay.of_sl (srs_of ry.1) (by decide)
  have h3 : Lay 6 Pc.cells pcLies w x.procs.p x.procs.l := Lay.of_sl rx.2.2 (by decide)
  have h4 : Lay 6 Pc.cells pcLies w y.procs.p y.procs.l := Lay.of_sl ry.2.2 (by decide)
  have hG1 : Lay 3 Dc.cells triv w x.globals.p x.globals.l := Lay.of_sl (decls_of rx.2.1) (by decide)
  have hG2 : Lay 3 Dc.cells triv w y.globals.p y.globals.l := Lay.of_sl (decls_of ry.2.1) (by decide)
  show Calls _ _ _ _ (fun en w' => en = .returned (.bool (sameL sameSr x.structs.l y.structs.l && (sameL sameDc x.globals.l y.globals.l && sameL samePc x.procs.l y.procs.l))) ∧ Below w.heap.size w w')
  obtain ⟨hl1, h1⟩ := h1
  obtain ⟨hl2, h2⟩ := h2
  obtain ⟨hl3, h3⟩ := h3
  obtain ⟨hl4, h4⟩ := h4
  clear rx ry
  generalize x.structs.l = l at *
  generalize y.structs.l = m at *
  generalize x.structs.p = p1 at *
  generalize y.structs.p = p2 at *
  generalize x.structs.cap = c1 at *
  generalize y.structs.cap = c2 at *
  generalize x.procs.l = r at *
  generalize y.procs.l = s at *
  generalize x.procs.p = q1 at *
  generalize y.procs.p = q2 at *
  generalize x.procs.cap = d1 at *
  generalize y.procs.cap = d2 at *
  generalize x.globals.l = gl at *
  generalize y.globals.l = hl at *
  generalize x.globals.p = gp at *
  generalize y.globals.p = hp at *
  generalize x.globals.cap = gc at *
  generalize y.globals.cap = hc at *
  have ha : Below w.heap.size w ((w.alloc (.cells #[.slice p1 l.length c1, .slice gp gl.length gc, .slice q1 r.length d1] 33)).alloc (.cells #[.slice p2 m.length c2, .slice hp hl.length hc, .slice q2 s.length d2] 33)) := ((Below.refl _ _).alloc (Nat.le_refl _) _).alloc (by simp) _
  have DG : Calls Tryd.prog 12 #[.slice gp gl.length gc, .slice hp hl.length hc] ((w.alloc (.cells #[.slice p1 l.length c1, .slice gp gl.length gc, .slice q1 r.length d1] 33)).alloc (.cells #[.slice p2 m.length c2, .slice hp hl.length hc, .slice q2 s.length d2] 33)) fun en w'' => en = .returned (.bool (sameL sameDc gl hl)) ∧ Below ((w.alloc (.cells #[.slice p1 l.length c1, .slice gp gl.length gc, .slice q1 r.length d1] 33)).alloc (.cells #[.slice p2 m.length c2, .slice hp hl.length hc, .slice q2 s.length d2] 33)).heap.size ((w.alloc (.cells #[.slice p1 l.length c1, .slice gp gl.length gc, .slice q1 r.length d1] 33)).alloc (.cells #[.slice p2 m.length c2, .slice hp hl.length hc, .slice q2 s.length d2] 33)) w'' :=
    refDecls_any gl hl gp hp gc hc ((w.alloc (.cells #[.slice p1 l.length c1, .slice gp gl.length gc, .slice q1 r.length d1] 33)).alloc (.cells #[.slice p2 m.length c2, .slice hp hl.length hc, .slice q2 s.length d2] 33)) (hG1.below ha (fun _ _ => trivial)) (hG2.below ha (fun _ _ => trivial))
  have K : ∀ w', Below ((w.alloc (.cells #[.slice p1 l.length c1, .slice gp gl.length gc, .slice q1 r.length d1] 33)).alloc (.cells #[.slice p2 m.length c2, .slice hp hl.length hc, .slice q2 s.length d2] 33)).heap.size ((w.alloc (.cells #[.slice p1 l.length c1, .slice gp gl.length gc, .slice q1 r.length d1] 33)).alloc (.cells #[.slice p2 m.length c2, .slice hp hl.length hc, .slice q2 s.length d2] 33)) w' → w'.cell? ⟨w.heap.size, 0, none⟩ = some (.slice p1 l.length c1) ∧ w'.cell? ⟨w.heap.size + 1, 0, none⟩ = some (.slice p2 m.length c2) ∧ w'.cell? ⟨w.heap.size, 2, none⟩ = some (.slice q1 r.length d1) ∧ w'.cell? ⟨w.heap.size + 1, 2, none⟩ = some (.slice q2 s.length d2) := fun w' hb =>
    ⟨(hb.cell (p := ⟨w.heap.size, 0, none⟩) (by simp; omega)).trans (cell_of_row _ _ 0 _ _ _ (heap_alloc2_old w _ _)), (hb.cell (p := ⟨w.heap.size + 1, 0, none⟩) (by simp)).trans (cell_of_row _ _ 0 _ _ _ (heap_alloc2_new w _ _)),
     (hb.cell (p := ⟨w.heap.size, 2, none⟩) (by simp; omega)).trans (cell_of_row _ _ 2 _ _ _ (heap_alloc2_old w _ _)), (hb.cell (p := ⟨w.heap.size + 1, 2, none⟩) (by simp)).trans (cell_of_row _ _ 2 _ _ _ (heap_alloc2_new w _ _))⟩
  generalize hgv : sameL sameDc gl hl = zg at DG ⊢
  have HA := Lib.hid ha
  have HK := Lib.hid K
  have HDG := Lib.hid DG
  have H1 := Lib.hid h1
  have H2 := Lib.hid h2
  have H3 := Lib.hid h3
  have H4 := Lib.hid h4
  clear ha K DG h1 h2 h3 h4 hG1 hG2 hgv
  by_cases hl1_ : l.length = m.length
  · have hl1_q : ((l.length : Int) != (m.length : Int)) = false := by rw [hl1_]; simp
    have HL1 := Lib.hid hl1_
    clear hl1_
    by_cases hl2_ : r.length = s.length
    · have hl2_q : ((r.length : Int) != (s.length : Int)) = false := by rw [hl2_]; simp
      have HL2 := Lib.hid hl2_
      clear hl2_
      cases zg
      · go_enter Tryd.func7, Tryd.ntmps7
        go_wp2_with fail
        refine (HDG.out).mono ?_; rintro en wg ⟨rfl, hbg⟩
        have HBG := Lib.hid (HA.out.trans (hbg.mono HA.out.size))
        clear hbg
        go_wp2_with fail
        go_ret
        exact ⟨ret_bool (by simp), HBG.out⟩
      · go_enter Tryd.func7, Tryd.ntmps7
        go_wp2_with fail
        refine (HDG.out).mono ?_; rintro en wg ⟨rfl, hbg⟩
        have HBG := Lib.hid hbg
        clear hbg
        go_wp2_with fail
        clear hl1_q hl2_q
        generalize ((w.alloc (.cells #[.slice p1 l.length c1, .slice gp gl.length gc, .slice q1 r.length d1] 33)).alloc (.cells #[.slice p2 m.length c2, .slice hp hl.length hc, .slice q2 s.length d2] 33)) = wA at HA HK HBG HDG ⊢
        go_loopw [5] (fun i wr => ∃ k : Nat, i = .int .i64 k ∧ k ≤ l.length ∧ Hid (sameL sameSr (l.take k) (m.take k) = true) ∧ Hid (Below wA.heap.size wA wr)) (fun i _ => l.length - (intOf i).toNat)
        case atStart => exact ⟨0, rfl, Nat.zero_le _, Lib.hid rfl, HBG⟩
        case round =>
          obtain ⟨k, rfl, hk, HT, HB⟩ := hrel
          obtain ⟨ka, kb, kc, kd⟩ := HK.out wr HB.out
          have HBW : Hid (Below w.heap.size w wr) := Lib.hid (HA.out.trans (HB.out.mono HA.out.size))
          by_cases hkl0 : k < l.length
          · have hkm : k < m.length := by have := HL1.out; omega
            have hkl := hkm
            obtain ⟨b2, o2, rfl, h2x⟩ : ∃ b o, p2 = some ⟨b, o, none⟩ ∧ ∀ k x, m[k]? = some x → w.rangeAt b (o + k * 3) (Sr.cells x) ∧ srLies w x := by
              rcases H2.out with h | h
              · rw [h] at hkl; simp at hkl
              · exact h
            clear hkl
            have hkl := hkl0
            obtain ⟨b1, o1, rfl, h1x⟩ : ∃ b o, p1 = some ⟨b, o, none⟩ ∧ ∀ k x, l[k]? = some x → w.rangeAt b (o + k * 3) (Sr.cells x) ∧ srLies w x := by
              rcases H1.out with h | h
              · rw [h] at hkl; simp at hkl
              · exact h
            have hx1 := h1x k l[k] (List.getElem?_eq_getElem hkl)
            have hy1 := h2x k m[k] (List.getElem?_eq_getElem hkm)
            have hst := sameL_step (f := sameSr) k hkl hkm
            have hat := sameL_at (f := sameSr) k hkl hkm
            have hk0 : (0 : Int) ≤ (k : Int) := Int.natCast_nonneg _
            have hk1 : (k : Int) < (l.length : Int) := by omega
            have hk2 : (k : Int) < (m.length : Int) := by omega
            generalize l[k] = xk at hx1 hst hat
            generalize m[k] = yk at hy1 hst hat
            rw [show sameSr xk yk = ((xk.name.toList == yk.name.toList) && sameL sameDc xk.fields.l yk.fields.l) from rfl] at hst hat
            have lx0 := cell_regrown (cell_at (rangeAt_below hx1.1 HBW.out) 0 _ rfl)
            have ly0 := cell_regrown (cell_at (rangeAt_below hy1.1 HBW.out) 0 _ rfl)
            have lx2 := cell_regrown (cell_at (rangeAt_below hx1.1 HBW.out) 2 _ rfl)
            have ly2 := cell_regrown (cell_at (rangeAt_below hy1.1 HBW.out) 2 _ rfl)
            simp only [Nat.add_zero] at lx0 ly0
            have qa := cell_regrown ka
            have qb := cell_regrown kb
            have CV : ∀ dd os, Calls Tryd.prog 12 #[.slice xk.fields.p xk.fields.l.length xk.fields.cap, .slice yk.fields.p yk.fields.l.length yk.fields.cap] (grow (redrawn wr dd) os) fun en w'' => en = .returned (.bool (sameL sameDc xk.fields.l yk.fields.l)) ∧ ∃ p : Regrown, w'' = grow (redrawn wr p.d) p.os :=
              fun dd os => Calls.regrown_of (refDecls_any _ _ _ _ _ _ _ (Lay.of_sl (decls_of (declsLie_below (declsLie_below hx1.2 HBW.out) (below_regrown _ _ _))) (by decide)) (Lay.of_sl (decls_of (declsLie_below (declsLie_below hy1.2 HBW.out) (below_regrown _ _ _))) (by decide)))
            generalize e0 : (xk.name.toList == yk.name.toList) = z0 at hst hat
            have f0 : (xk.name.toList != yk.name.toList) = !z0 := by rw [← e0]; rfl
            generalize sameL sameDc xk.fields.l yk.fields.l = z1 at CV hst hat
            have HST := Lib.hid hst
            have HAT := Lib.hid hat
            clear h1x h2x hst hat hkl0 hx1 hy1
            cases z0
            · go_wp2_with fail
              refine wp_region_quiet_below (by kernel_rfl) (by kernel_rfl) ?_
              repeat (go_big_quiet_step (with_reducible exact CV _ _))
              refine wpQuiet_nil ?_
              intro _ hw'
              obtain ⟨⟨dq, osq⟩, hw''⟩ := hw'
              subst hw''
              have HB3 := Lib.hid (below_regrown wr dq osq)
              generalize grow (redrawn wr dq) osq = w3 at HB3 ⊢
              go_wp2_with fail
              go_ret
              exact ⟨ret_bool (by rw [HAT.out (by first | rfl | trivial | simp)]; simp), HBW.out.trans (HB3.out.mono HBW.out.size)⟩
            · cases z1
              · go_wp2_with fail
                refine wp_region_quiet_below (by kernel_rfl) (by kernel_rfl) ?_
                repeat (go_big_quiet_step (with_reducible exact CV _ _))
                refine wpQuiet_nil ?_
                intro _ hw'
                obtain ⟨⟨dq, osq⟩, hw''⟩ := hw'
                subst hw''
                have HB3 := Lib.hid (below_regrown wr dq osq)
                generalize grow (redrawn wr dq) osq = w3 at HB3 ⊢
                go_wp2_with fail
                go_ret
                exact ⟨ret_bool (by rw [HAT.out (by first | rfl | trivial | simp)]; simp), HBW.out.trans (HB3.out.mono HBW.out.size)⟩
              · go_wp2_with fail
                refine wp_region_quiet_below (by kernel_rfl) (by kernel_rfl) ?_
                repeat (go_big_quiet_step (with_reducible exact CV _ _))
                refine wpQuiet_nil ?_
                intro _ hw'
                obtain ⟨⟨dq, osq⟩, hw''⟩ := hw'
                subst hw''
                have HB3 := Lib.hid (below_regrown wr dq osq)
                generalize grow (redrawn wr dq) osq = w3 at HB3 ⊢
                go_wp2_with fail
                go_roundw
                case rel => exact ⟨k + 1, by go_num, by omega, Lib.hid (by rw [HST.out, HT.out]; rfl), Lib.hid (HB.out.trans (HB3.out.mono HB.out.size))⟩
                case measure => simp [intOf]; omega
          · have HF : Hid (sameL sameSr l m = true) := Lib.hid (by
              have := HT.out
              rwa [List.take_of_length_le (by omega), List.take_of_length_le (by have := HL1.out; omega)] at this)
            go_wp2_with fail
            obtain ⟨wo, rfl⟩ : ∃ wo : World, wo = wr := ⟨_, rfl⟩
            go_loopw [6] (fun i wr => ∃ k : Nat, i = .int .i64 k ∧ k ≤ r.length ∧ Hid (sameL samePc (r.take k) (s.take k) = true) ∧ Hid (Below wA.heap.size wA wr)) (fun i _ => r.length - (intOf i).toNat)
            case atStart => exact ⟨0, rfl, Nat.zero_le _, Lib.hid rfl, HB⟩
            case round =>
              clear ka kb kc kd hkl0 hk HBW HT
              obtain ⟨k, rfl, hk, HT, HC⟩ := hrel
              obtain ⟨ka, kb, kc, kd⟩ := HK.out wr HC.out
              have HBW : Hid (Below w.heap.size w wr) := Lib.hid (HA.out.trans (HC.out.mono HA.out.size))
              by_cases hkl0 : k < r.length
              · have hkm : k < s.length := by have := HL2.out; omega
                have hkl := hkm
                obtain ⟨b2, o2, rfl, h2x⟩ : ∃ b o, q2 = some ⟨b, o, none⟩ ∧ ∀ k x, s[k]? = some x → w.rangeAt b (o + k * 6) (Pc.cells x) ∧ pcLies w x := by
                  rcases H4.out with h | h
                  · rw [h] at hkl; simp at hkl
                  · exact h
                clear hkl
                have hkl := hkl0
                obtain ⟨b1, o1, rfl, h1x⟩ : ∃ b o, q1 = some ⟨b, o, none⟩ ∧ ∀ k x, r[k]? = some x → w.rangeAt b (o + k * 6) (Pc.cells x) ∧ pcLies w x := by
                  rcases H3.out with h | h
                  · rw [h] at hkl; simp at hkl
                  · exact h
                have hx1 := h1x k r[k] (List.getElem?_eq_getElem hkl)
                have hy1 := h2x k s[k] (List.getElem?_eq_getElem hkm)
                have hst := sameL_step (f := samePc) k hkl hkm
                have hat := sameL_at (f := samePc) k hkl hkm
                have hk0 : (0 : Int) ≤ (k : Int) := Int.natCast_nonneg _
                have hk1 : (k : Int) < (r.length : Int) := by omega
                have hk2 : (k : Int) < (s.length : Int) := by omega
                generalize r[k] = xk at hx1 hst hat
                generalize s[k] = yk at hy1 hst hat
                rw [show samePc xk yk = ((xk.name.toList == yk.name.toList) && (sameL sameDc xk.params.l yk.params.l && (sameL sameDc xk.locals_.l yk.locals_.l && sameSL xk.body yk.body))) from rfl] at hst hat
                have lx0 := cell_at (rangeAt_below hx1.1 HBW.out) 0 _ rfl
                have ly0 := cell_at (rangeAt_below hy1.1 HBW.out) 0 _ rfl
                have lx1 := cell_at (rangeAt_below hx1.1 HBW.out) 1 _ rfl
                have ly1 := cell_at (rangeAt_below hy1.1 HBW.out) 1 _ rfl
                have lx2 := cell_at (rangeAt_below hx1.1 HBW.out) 2 _ rfl
                have ly2 := cell_at (rangeAt_below hy1.1 HBW.out) 2 _ rfl
                have lx3 := cell_at (rangeAt_below hx1.1 HBW.out) 3 _ rfl
                have ly3 := cell_at (rangeAt_below hy1.1 HBW.out) 3 _ rfl
                have lx4 := cell_at (rangeAt_below hx1.1 HBW.out) 4 _ rfl
                have ly4 := cell_at (rangeAt_below hy1.1 HBW.out) 4 _ rfl
                have lx5 := cell_at (rangeAt_below hx1.1 HBW.out) 5 _ rfl
                have ly5 := cell_at (rangeAt_below hy1.1 HBW.out) 5 _ rfl
                simp only [Nat.add_zero] at lx0 ly0
                have P1 : ∀ w', Below w.heap.size w w' → Calls Tryd.prog 12 #[.slice xk.params.p xk.params.l.length xk.params.cap, .slice yk.params.p yk.params.l.length yk.params.cap] w' fun en w'' => en = .returned (.bool (sameL sameDc xk.params.l yk.params.l)) ∧ Below w'.heap.size w' w'' := fun w' hb =>
                  refDecls_any _ _ _ _ _ _ w' (Lay.of_sl (decls_of (pcLies_below hx1.2 hb).1) (by decide)) (Lay.of_sl (decls_of (pcLies_below hy1.2 hb).1) (by decide))
                have P2 : ∀ w', Below w.heap.size w w' → Calls Tryd.prog 12 #[.slice xk.locals_.p xk.locals_.l.length xk.locals_.cap, .slice yk.locals_.p yk.locals_.l.length yk.locals_.cap] w' fun en w'' => en = .returned (.bool (sameL sameDc xk.locals_.l yk.locals_.l)) ∧ Below w'.heap.size w' w'' := fun w' hb =>
                  refDecls_any _ _ _ _ _ _ w' (Lay.of_sl (decls_of (pcLies_below hx1.2 hb).2.1) (by decide)) (Lay.of_sl (decls_of (pcLies_below hy1.2 hb).2.1) (by decide))
                have P3 : ∀ w', Below w.heap.size w w' → Calls Tryd.prog 13 #[.slice xk.bp xk.body.len xk.bc, .slice yk.bp yk.body.len yk.bc] w' fun en w'' => en = .returned (.bool (sameSL xk.body yk.body)) ∧ Below w'.heap.size w' w'' := fun w' hb =>
                  refList_any xk.body yk.body _ _ _ _ w' (pcLies_below hx1.2 hb).2.2 (pcLies_below hy1.2 hb).2.2
                generalize e0 : (xk.name.toList == yk.name.toList) = z0 at hst hat
                have f0 : (xk.name.toList != yk.name.toList) = !z0 := by rw [← e0]; rfl
                generalize sameL sameDc xk.params.l yk.params.l = z1 at P1 hst hat
                generalize sameL sameDc xk.locals_.l yk.locals_.l = z2 at P2 hst hat
                generalize sameSL xk.body yk.body = z3 at P3 hst hat
                have HP1 := Lib.hid P1
                have HP2 := Lib.hid P2
                have HP3 := Lib.hid P3
                have HST := Lib.hid hst
                have HAT := Lib.hid hat
                have hb1 := World.block_lt_of_cell? wr _ lx0
                have hb2 := World.block_lt_of_cell? wr _ ly0
                have hb3 := World.block_lt_of_cell? wr _ kc
                have hb4 := World.block_lt_of_cell? wr _ kd
                clear h1x h2x hst hat hkl0 hx1 hy1 P1 P2 P3 ka kb
                go_wp2_with fail
                go_region_held3 (fun w' => w'.cell? ⟨w.heap.size, 2, none⟩ = some (.slice (some ⟨b1, o1, none⟩) r.length d1) ∧ w'.cell? ⟨w.heap.size + 1, 2, none⟩ = some (.slice (some ⟨b2, o2, none⟩) s.length d2) ∧ w'.cell? ⟨b1, o1 + k * 6, none⟩ = some (.string xk.name) ∧ w'.cell? ⟨b1, o1 + k * 6 + 1, none⟩ = some (.int .i64 xk.pos) ∧ w'.cell? ⟨b1, o1 + k * 6 + 2, none⟩ = some (.int .i64 xk.fin) ∧ w'.cell? ⟨b1, o1 + k * 6 + 3, none⟩ = some (.slice xk.params.p xk.params.l.length xk.params.cap) ∧ w'.cell? ⟨b1, o1 + k * 6 + 4, none⟩ = some (.slice xk.locals_.p xk.locals_.l.length xk.locals_.cap) ∧ w'.cell? ⟨b1, o1 + k * 6 + 5, none⟩ = some (.slice xk.bp xk.body.len xk.bc) ∧ w'.cell? ⟨b2, o2 + k * 6, none⟩ = some (.string yk.name) ∧ w'.cell? ⟨b2, o2 + k * 6 + 1, none⟩ = some (.int .i64 yk.pos) ∧ w'.cell? ⟨b2, o2 + k * 6 + 2, none⟩ = some (.int .i64 yk.fin) ∧ w'.cell? ⟨b2, o2 + k * 6 + 3, none⟩ = some (.slice yk.params.p yk.params.l.length yk.params.cap) ∧ w'.cell? ⟨b2, o2 + k * 6 + 4, none⟩ = some (.slice yk.locals_.p yk.locals_.l.length yk.locals_.cap) ∧ w'.cell? ⟨b2, o2 + k * 6 + 5, none⟩ = some (.slice yk.bp yk.body.len yk.bc)) (go_keep) ((fail))
                all_goals
                  cases z0
                  · go_wp2_with fail
                    go_ret
                    exact ⟨ret_bool (by rw [HAT.out (by first | rfl | trivial | simp)]; simp), HBW.out.trans ((below_drewN_ (((Below.refl wr.heap.size wr).alloc (Nat.le_refl _) _).alloc (by simp) _) 1).mono HBW.out.size)⟩
                  · cases z1
                    · go_wp2_with fail
                      refine (HP1.out _ (HBW.out.trans ((below_drewN_ (((Below.refl wr.heap.size wr).alloc (Nat.le_refl _) _).alloc (by simp) _) 1).mono HBW.out.size))).mono ?_; rintro en w1 ⟨rfl, hb1⟩
                      have ca1 := fun j => hb1.cell (p := ⟨wr.heap.size, j, none⟩) (by simp; omega)
                      have cb1 := fun j => hb1.cell (p := ⟨wr.heap.size + 1, j, none⟩) (by simp)
                      have HZ1 : Hid (Below wr.heap.size wr w1) := Lib.hid ((below_drewN_ (((Below.refl wr.heap.size wr).alloc (Nat.le_refl _) _).alloc (by simp) _) 1).trans (hb1.mono (by simp; omega)))
                      have HY1 := Lib.hid hb1
                      clear hb1
                      go_wp2_with fail
                      go_ret
                      exact ⟨ret_bool (by rw [HAT.out (by first | rfl | trivial | simp)]; simp), HBW.out.trans (HZ1.out.mono HBW.out.size)⟩
                    · cases z2
                      · go_wp2_with fail
                        refine (HP1.out _ (HBW.out.trans ((below_drewN_ (((Below.refl wr.heap.size wr).alloc (Nat.le_refl _) _).alloc (by simp) _) 1).mono HBW.out.size))).mono ?_; rintro en w1 ⟨rfl, hb1⟩
                        have ca1 := fun j => hb1.cell (p := ⟨wr.heap.size, j, none⟩) (by simp; omega)
                        have cb1 := fun j => hb1.cell (p := ⟨wr.heap.size + 1, j, none⟩) (by simp)
                        have HZ1 : Hid (Below wr.heap.size wr w1) := Lib.hid ((below_drewN_ (((Below.refl wr.heap.size wr).alloc (Nat.le_refl _) _).alloc (by simp) _) 1).trans (hb1.mono (by simp; omega)))
                        have HY1 := Lib.hid hb1
                        clear hb1
                        go_wp2_with fail
                        refine (HP2.out _ (HBW.out.trans (HZ1.out.mono HBW.out.size))).mono ?_; rintro en w2 ⟨rfl, hb2⟩
                        have HY2 := Lib.hid (HY1.out.trans (hb2.mono HY1.out.size))
                        have ca2 := fun j => HY2.out.cell (p := ⟨wr.heap.size, j, none⟩) (by simp; omega)
                        have cb2 := fun j => HY2.out.cell (p := ⟨wr.heap.size + 1, j, none⟩) (by simp)
                        have HZ2 : Hid (Below wr.heap.size wr w2) := Lib.hid (HZ1.out.trans (hb2.mono HZ1.out.size))
                        clear hb2
                        go_wp2_with fail
                        go_ret
                        exact ⟨ret_bool (by rw [HAT.out (by first | rfl | trivial | simp)]; simp), HBW.out.trans (HZ2.out.mono HBW.out.size)⟩
                      · cases z3
                        · go_wp2_with fail
                          refine (HP1.out _ (HBW.out.trans ((below_drewN_ (((Below.refl wr.heap.size wr).alloc (Nat.le_refl _) _).alloc (by simp) _) 1).mono HBW.out.size))).mono ?_; rintro en w1 ⟨rfl, hb1⟩
                          have ca1 := fun j => hb1.cell (p := ⟨wr.heap.size, j, none⟩) (by simp; omega)
                          have cb1 := fun j => hb1.cell (p := ⟨wr.heap.size + 1, j, none⟩) (by simp)
                          have HZ1 : Hid (Below wr.heap.size wr w1) := Lib.hid ((below_drewN_ (((Below.refl wr.heap.size wr).alloc (Nat.le_refl _) _).alloc (by simp) _) 1).trans (hb1.mono (by simp; omega)))
                          have HY1 := Lib.hid hb1
                          clear hb1
                          go_wp2_with fail
                          refine (HP2.out _ (HBW.out.trans (HZ1.out.mono HBW.out.size))).mono ?_; rintro en w2 ⟨rfl, hb2⟩
                          have HY2 := Lib.hid (HY1.out.trans (hb2.mono HY1.out.size))
                          have ca2 := fun j => HY2.out.cell (p := ⟨wr.heap.size, j, none⟩) (by simp; omega)
                          have cb2 := fun j => HY2.out.cell (p := ⟨wr.heap.size + 1, j, none⟩) (by simp)
                          have HZ2 : Hid (Below wr.heap.size wr w2) := Lib.hid (HZ1.out.trans (hb2.mono HZ1.out.size))
                          clear hb2
                          go_wp2_with fail
                          refine (HP3.out _ (HBW.out.trans (HZ2.out.mono HBW.out.size))).mono ?_; rintro en w3 ⟨rfl, hb3⟩
                          have HY3 := Lib.hid (HY2.out.trans (hb3.mono HY2.out.size))
                          have ca3 := fun j => HY3.out.cell (p := ⟨wr.heap.size, j, none⟩) (by simp; omega)
                          have cb3 := fun j => HY3.out.cell (p := ⟨wr.heap.size + 1, j, none⟩) (by simp)
                          have HZ3 : Hid (Below wr.heap.size wr w3) := Lib.hid (HZ2.out.trans (hb3.mono HZ2.out.size))
                          clear hb3
                          go_wp2_with fail
                          go_ret
                          exact ⟨ret_bool (by rw [HAT.out (by first | rfl | trivial | simp)]; simp), HBW.out.trans (HZ3.out.mono HBW.out.size)⟩
                        · go_wp2_with fail
                          refine (HP1.out _ (HBW.out.trans ((below_drewN_ (((Below.refl wr.heap.size wr).alloc (Nat.le_refl _) _).alloc (by simp) _) 1).mono HBW.out.size))).mono ?_; rintro en w1 ⟨rfl, hb1⟩
                          have ca1 := fun j => hb1.cell (p := ⟨wr.heap.size, j, none⟩) (by simp; omega)
                          have cb1 := fun j => hb1.cell (p := ⟨wr.heap.size + 1, j, none⟩) (by simp)
                          have HZ1 : Hid (Below wr.heap.size wr w1) := Lib.hid ((below_drewN_ (((Below.refl wr.heap.size wr).alloc (Nat.le_refl _) _).alloc (by simp) _) 1).trans (hb1.mono (by simp; omega)))
                          have HY1 := Lib.hid hb1
                          clear hb1
                          go_wp2_with fail
                          refine (HP2.out _ (HBW.out.trans (HZ1.out.mono HBW.out.size))).mono ?_; rintro en w2 ⟨rfl, hb2⟩
                          have HY2 := Lib.hid (HY1.out.trans (hb2.mono HY1.out.size))
                          have ca2 := fun j => HY2.out.cell (p := ⟨wr.heap.size, j, none⟩) (by simp; omega)
                          have cb2 := fun j => HY2.out.cell (p := ⟨wr.heap.size + 1, j, none⟩) (by simp)
                          have HZ2 : Hid (Below wr.heap.size wr w2) := Lib.hid (HZ1.out.trans (hb2.mono HZ1.out.size))
                          clear hb2
                          go_wp2_with fail
                          refine (HP3.out _ (HBW.out.trans (HZ2.out.mono HBW.out.size))).mono ?_; rintro en w3 ⟨rfl, hb3⟩
                          have HY3 := Lib.hid (HY2.out.trans (hb3.mono HY2.out.size))
                          have ca3 := fun j => HY3.out.cell (p := ⟨wr.heap.size, j, none⟩) (by simp; omega)
                          have cb3 := fun j => HY3.out.cell (p := ⟨wr.heap.size + 1, j, none⟩) (by simp)
                          have HZ3 : Hid (Below wr.heap.size wr w3) := Lib.hid (HZ2.out.trans (hb3.mono HZ2.out.size))
                          clear hb3
                          go_wp2_with fail
                          go_roundw
                          case rel => exact ⟨k + 1, by go_num, by omega, Lib.hid (by rw [HST.out, HT.out]; rfl), Lib.hid (HC.out.trans (HZ3.out.mono HC.out.size))⟩
                          case measure => simp [intOf]; omega
              · have HF2 : Hid (sameL samePc r s = true) := Lib.hid (by
                  have := HT.out
                  rwa [List.take_of_length_le (by omega), List.take_of_length_le (by have := HL2.out; omega)] at this)
                go_wp2_with fail
                go_ret
                exact ⟨ret_bool (by rw [HF.out, HF2.out]; rfl), HBW.out⟩
    · have hl2_q : ((r.length : Int) != (s.length : Int)) = true := by
        rw [bne_iff_ne]; intro e; exact hl2_ (by omega)
      rw [sameL_len hl2_]
      clear hl2_
      go_enter Tryd.func7, Tryd.ntmps7
      go_wp2_with fail
      go_ret
      exact ⟨ret_bool (by simp), HA.out⟩
  · have hl1_q : ((l.length : Int) != (m.length : Int)) = true := by
      rw [bne_iff_ne]; intro e; exact hl1_ (by omega)
    rw [sameL_len hl1_]
    clear hl1_
    go_enter Tryd.func7, Tryd.ntmps7
    go_wp2_with fail
    go_ret
    exact ⟨ret_bool (by simp), HA.out⟩

end Go.Proofs.YtlpnkllhpienhaaDoor
