/-
  DERIVED. The walks of 'are they the same': the document's SameList.
-/
import Derived.Test.YtpbjnjnmbglllaaRsS
namespace Go.Proofs.Ytpbjnjnmbglllaa
open Go.RowKit Go.Sort

/-- In a region that draws its order and reads quietly: a struct's value out of the middle of a block. -/
theorem wpQuiet_load {P : Program} {ops : Array Oper} {C : World → Prop} {Q : Act → Prop} {a : Act} {o : Oper} {rest : List Oper} (hw : Region.wanted o (yielded ops a.tmps) = true) (ty : TypeId) (x : Operand) (ho : o.op = .load ty x)
    (b q : Nat) (hx : a.eval x = .pointer (some ⟨b, q, none⟩)) (cs : Array Value) (d : TypeDesc) (hc : ∀ w, C w → w.rangeAt b q cs.toList) (hu : P.underlying ty = some d) (hd : d.isRow = true) (hi : (P.info? ty).map (·.size) = some cs.size)
    (h : wpQuiet P ops C Q rest (a.put o.dst (.agg cs))) : wpQuiet P ops C Q (o :: rest) a := by
  refine BigFrame.wpQuiet_want hw fun K hK => ⟨.agg cs, fun w hw' => ?_, hK _ h⟩
  unfold Oper.quietAt execOp
  simp only [ho, hx, Instr.loadAt, Instr.sureAddr, Sem.run_bind, Sem.run_pure, Result.andThen_ok, run_loadVar_mid w b q ty cs.toList d (hc w hw') hu hd (by simpa using hi)]
  exact ⟨rfl, by simp⟩

set_option maxHeartbeats 6400000 in
set_option maxRecDepth 100000 in
theorem refList_one (sl : SL) (hP : sl.each okRL) : okRL sl := by
  intro sm p1 c1 p2 c2 w hs1 hs2
  have hOk : ∀ x ∈ sl.items, okRL x.t ∧ okRL x.e := SL.each_items hP
  have h1 := Lay.of_sLies hs1
  have h2 := Lay.of_sLies hs2
  rw [sameSL_items, ← SL.items_len, ← SL.items_len]
  clear hP hs1 hs2
  generalize sl.items = l at *
  generalize sm.items = m at *
  obtain ⟨hl1, h1⟩ := h1
  obtain ⟨hl2, h2⟩ := h2
  have H1 := Lib.hid h1
  have H2 := Lib.hid h2
  have HO := Lib.hid hOk
  clear h1 h2 hOk
  by_cases he : l.length = m.length
  · have heq : ((l.length : Int) != (m.length : Int)) = false := by rw [he]; simp
    have HE := Lib.hid he
    clear he
    go_enter Try.func21, Try.ntmps21
    go_wp2_with fail
    clear heq
    go_loopw [5] (fun i wr => ∃ k : Nat, i = .int .i64 k ∧ k ≤ l.length ∧ Hid (sameL sameIt (l.take k) (m.take k) = true) ∧ Hid (Below w.heap.size w wr)) (fun i _ => l.length - (intOf i).toNat)
    case atStart => exact ⟨0, rfl, Nat.zero_le _, Lib.hid rfl, Lib.hid (Below.refl _ _)⟩
    case round =>
      obtain ⟨k, rfl, hk, HT, HB⟩ := hrel
      by_cases hkl0 : k < l.length
      · have hkm : k < m.length := by have := HE.out; omega
        have hkl := hkm
        obtain ⟨b2, o2, rfl, h2x⟩ : ∃ b o, p2 = some ⟨b, o, none⟩ ∧ ∀ k x, m[k]? = some x → w.rangeAt b (o + k * 48) (It.cells x) ∧ itLies w x := by
          rcases H2.out with h | h
          · rw [h] at hkl; simp at hkl
          · exact h
        clear hkl
        have hkl := hkl0
        obtain ⟨b1, o1, rfl, h1x⟩ : ∃ b o, p1 = some ⟨b, o, none⟩ ∧ ∀ k x, l[k]? = some x → w.rangeAt b (o + k * 48) (It.cells x) ∧ itLies w x := by
          rcases H1.out with h | h
          · rw [h] at hkl; simp at hkl
          · exact h
        have hx1 := h1x k l[k] (List.getElem?_eq_getElem hkl)
        have hy1 := h2x k m[k] (List.getElem?_eq_getElem hkm)
        have hok := HO.out l[k] (List.getElem_mem _)
        have hst := sameL_step (f := sameIt) k hkl hkm
        have hat := sameL_at (f := sameIt) k hkl hkm
        have hk0 : (0 : Int) ≤ (k : Int) := Int.natCast_nonneg _
        have hk1 : (k : Int) < (l.length : Int) := by omega
        have hk2 : (k : Int) < (m.length : Int) := by omega
        generalize l[k] = xk at hx1 hst hat hok
        generalize m[k] = yk at hy1 hst hat
        obtain ⟨cx, hcx⟩ : ∃ cx, cx = xk.cells.toArray := ⟨_, rfl⟩
        obtain ⟨cy, hcy⟩ : ∃ cy, cy = yk.cells.toArray := ⟨_, rfl⟩
        have HRX : Hid (∀ w', (∃ p : Regrown, w' = grow (redrawn wr p.d) p.os) → w'.rangeAt b1 (o1 + k * 48) cx.toList) := Lib.hid (fun w' hw' => by
          obtain ⟨p, rfl⟩ := hw'
          rw [hcx]; exact rangeAt_below (rangeAt_below hx1.1 HB.out) (below_regrown _ _ _))
        have HRY : Hid (∀ w', (∃ p : Regrown, w' = grow (redrawn wr p.d) p.os) → w'.rangeAt b2 (o2 + k * 48) cy.toList) := Lib.hid (fun w' hw' => by
          obtain ⟨p, rfl⟩ := hw'
          rw [hcy]; exact rangeAt_below (rangeAt_below hy1.1 HB.out) (below_regrown _ _ _))
        have HSX : Hid ((Try.prog.info? 57).map (·.size) = some cx.size) := Lib.hid (by rw [hcx]; exact size57)
        have HSY : Hid ((Try.prog.info? 57).map (·.size) = some cy.size) := Lib.hid (by rw [hcy]; exact size57)
        have CV : ∀ dd os, Calls Try.prog 41 #[.agg cx, .agg cy] (grow (redrawn wr dd) os) fun en w'' => en = .returned (.bool (sameIt xk yk)) ∧ ∃ p : Regrown, w'' = grow (redrawn wr p.d) p.os :=
          fun dd os => Calls.regrown_of (refStmt_any xk yk hok.1 hok.2 cx cy hcx hcy _ (itLies_below (itLies_below hx1.2 HB.out) (below_regrown _ _ _)) (itLies_below (itLies_below hy1.2 HB.out) (below_regrown _ _ _)))
        generalize sameIt xk yk = vk at hst hat CV
        have HST := Lib.hid hst
        have HAT := Lib.hid hat
        clear h1x h2x hst hat hkl0 hx1 hy1 hok hcx hcy
        cases vk
        · go_wp2_with fail
          refine wp_region_quiet_below (by kernel_rfl) (by kernel_rfl) ?_
          repeat (first | ((with_reducible show wpQuiet _ _ _ _ (Oper.mk (some 20) _ _ _ _ _ :: _) _); refine wpQuiet_load rfl 57 (.tmp 19) rfl b1 (o1 + k * 48) rfl cx _ HRX.out Try.underlying57 rfl HSX.out ?_; simp only [Act.put, List.setIfInBounds_toArray, List.set_cons_succ, List.set_cons_zero]) | ((with_reducible show wpQuiet _ _ _ _ (Oper.mk (some 24) _ _ _ _ _ :: _) _); refine wpQuiet_load rfl 57 (.tmp 23) rfl b2 (o2 + k * 48) rfl cy _ HRY.out Try.underlying57 rfl HSY.out ?_; simp only [Act.put, List.setIfInBounds_toArray, List.set_cons_succ, List.set_cons_zero]) | go_big_quiet_step (with_reducible exact CV _ _))
          refine wpQuiet_nil ?_
          intro _ hw'
          obtain ⟨⟨dq, osq⟩, hw''⟩ := hw'
          subst hw''
          have HB3 := Lib.hid (below_regrown wr dq osq)
          generalize grow (redrawn wr dq) osq = w3 at HB3 ⊢
          go_wp2_with fail
          go_ret
          exact ⟨ret_bool (by rw [HAT.out (by first | rfl | trivial)]), HB.out.trans (HB3.out.mono HB.out.size)⟩
        · go_wp2_with fail
          refine wp_region_quiet_below (by kernel_rfl) (by kernel_rfl) ?_
          repeat (first | ((with_reducible show wpQuiet _ _ _ _ (Oper.mk (some 20) _ _ _ _ _ :: _) _); refine wpQuiet_load rfl 57 (.tmp 19) rfl b1 (o1 + k * 48) rfl cx _ HRX.out Try.underlying57 rfl HSX.out ?_; simp only [Act.put, List.setIfInBounds_toArray, List.set_cons_succ, List.set_cons_zero]) | ((with_reducible show wpQuiet _ _ _ _ (Oper.mk (some 24) _ _ _ _ _ :: _) _); refine wpQuiet_load rfl 57 (.tmp 23) rfl b2 (o2 + k * 48) rfl cy _ HRY.out Try.underlying57 rfl HSY.out ?_; simp only [Act.put, List.setIfInBounds_toArray, List.set_cons_succ, List.set_cons_zero]) | go_big_quiet_step (with_reducible exact CV _ _))
          refine wpQuiet_nil ?_
          intro _ hw'
          obtain ⟨⟨dq, osq⟩, hw''⟩ := hw'
          subst hw''
          have HB3 := Lib.hid (below_regrown wr dq osq)
          generalize grow (redrawn wr dq) osq = w3 at HB3 ⊢
          go_wp2_with fail
          go_roundw
          case rel => exact ⟨k + 1, by go_num, by omega, Lib.hid (by rw [HST.out, HT.out]; rfl), Lib.hid (HB.out.trans (HB3.out.mono HB.out.size))⟩
          case measure => simp [intOf]; omega
      · have HF : Hid (sameL sameIt l m = true) := Lib.hid (by
          have := HT.out
          rwa [List.take_of_length_le (by omega), List.take_of_length_le (by have := HE.out; omega)] at this)
        go_wp2_with fail
        go_ret
        exact ⟨ret_bool (by rw [HF.out]), HB.out⟩
  · have heq : ((l.length : Int) != (m.length : Int)) = true := by
      rw [bne_iff_ne]; intro e; exact he (by omega)
    rw [sameL_len he]
    clear he
    go_enter Try.func21, Try.ntmps21
    go_wp2_with fail
    go_ret
    exact ⟨rfl, Below.refl _ _⟩
theorem refList_any (l : SL) : okRL l := (SL.all refList_one l).1

end Go.Proofs.Ytpbjnjnmbglllaa
