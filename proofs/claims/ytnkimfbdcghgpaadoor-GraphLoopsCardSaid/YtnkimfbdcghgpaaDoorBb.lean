/-
  DERIVED. The walk of a part's taking out (take).
-/
import Derived.Test.YtnkimfbdcghgpaaDoorBa
import Derived.Maps.AppendAt
import Derived.Deep.AppendLies
import Derived.Deep.RegionWith
namespace Go.Proofs.YtnkimfbdcghgpaaDoor
open Go.RowKit Go.Sort
open Ac

theorem grownBy_tr {a b c : World} {r : Option Nat} (h : a.grownBy b r) (k : b.grownBy c r) : a.grownBy c r := h.trans k
theorem grownBy_drewN {w w' : World} {r : Option Nat} (h : w.grownBy w' r) (n : Nat) : w.grownBy (w'.drewN n) r := ⟨h.os, h.tape, h.output, h.size, h.block⟩
theorem grownBy_drew {a b : World} {r : Option Nat} (h : a.grownBy b r) : a.grownBy b.drew r := ⟨h.os, h.tape, h.output, h.size, h.block⟩
theorem Bk.drewN {w : World} {g : Nat} {t : TypeId} {cs : Array Value} (h : Bk w g t cs) (n : Nat) : Bk (w.drewN n) g t cs := h
theorem cell_heap {w w' : World} {b o : Nat} (h : w'.heap[b]? = w.heap[b]?) : w'.cell? ⟨b, o, none⟩ = w.cell? ⟨b, o, none⟩ := by unfold World.cell?; rw [h]
theorem gPow : Tryd.prog.globalNamed "internal/strconv.uint64pow10" = some 5 := by kernel_rfl
theorem Gl.of {w w' : World} (h : Gl w) (hb : ∀ b, b < 8 → w'.heap[b]? = w.heap[b]?) (hs : w.heap.size ≤ w'.heap.size) : Gl w' := by
  have hc : ∀ b o, b < 8 → w'.cell? ⟨b, o, none⟩ = w.cell? ⟨b, o, none⟩ := fun b o hlt => cell_heap (hb b hlt)
  refine ⟨fun k hk j hj => ?_, fun k hk => ?_, fun p h1 h2 => ?_, fun p h1 => ?_, fun p h1 => ?_, fun k hk => ?_, fun k hk => ?_, ?_, Nat.lt_of_lt_of_le h.big hs⟩
  · rw [hc _ _ (by omega)]; exact h.forms k hk j hj
  · rw [hc _ _ (by omega)]; exact h.words k hk
  · rw [hc _ _ (by omega)]; exact h.sign p h1 h2
  · rw [hc _ _ (by omega)]; exact h.lo p h1
  · rw [hc _ _ (by omega)]; exact h.hi p h1
  · rw [hc _ _ (by omega)]; exact h.sums k hk
  · rw [hc _ _ (by omega)]; exact h.ords k hk
  · have hp := h.pow
    unfold Lib.TabIs World.var? at hp ⊢
    rw [gPow] at hp ⊢
    simp only [Option.bind_some] at hp ⊢
    rw [hb 5 (by omega)]
    exact hp
theorem Gl.below {w w' : World} {B : Nat} (h : Gl w) (hb : Below B w w') (hB : 8 ≤ B) : Gl w' :=
  h.of (fun b hlt => hb.block b (by omega)) hb.size
theorem Gl.grown {w w' : World} {g : Nat} (h : Gl w) (hg : w.grownBy w' (some g)) (h11 : 8 ≤ g) : Gl w' :=
  h.of (fun b hlt => hg.block b (by have := h.big; omega) (fun e => by injection e with e; omega)) hg.size

/-- What take leaves. -/
def TkPost (w : World) (g p : Nat) (a : Acn) (e : Ending) (w' : World) : Prop := e = .returned (.bool (tk p a).1) ∧ Bk w' g 32 (tk p a).2.cs ∧ w.grownBy w' (some g)
theorem bk_op {w : World} {g : Nat} {a : Acn} (h : Bk w g 32 a.cs) (o : Opd) (i : Nat) : (i = 7 → o = a.l → Bk (opW w g i o) g 32 ({ a with l := (opTk o).2 } : Acn).cs) ∧ (i = 9 → o = a.r → Bk (opW w g i o) g 32 ({ a with r := (opTk o).2 } : Acn).cs) := by
  refine ⟨?_, ?_⟩
  · rintro rfl rfl
    unfold opW opTk
    split
    · exact (h.set_ 7 _).set_ 8 _
    · exact h.set_ 7 _
  · rintro rfl rfl
    unfold opW opTk
    split
    · exact (h.set_ 9 _).set_ 10 _
    · exact h.set_ 9 _
theorem grown_op (w : World) (g i : Nat) (o : Opd) : w.grownBy (opW w g i o) (some g) := by
  unfold opW
  split
  · exact grownBy_tr (grownBy_setC w ⟨g, i, none⟩ _) (grownBy_setC _ ⟨g, i + 1, none⟩ _)
  · exact grownBy_setC w ⟨g, i, none⟩ _
set_option maxHeartbeats 1600000 in
theorem take_left (g : Nat) (a : Acn) (w : World) (h : Bk w g 32 a.cs) : Calls Tryd.prog 32 #[.int .u8 ((9 : Nat) : Int), .pointer (some ⟨g, 0, none⟩)] w fun e w' => TkPost w g 9 a e w' := by
  have CO := operand_any g 7 a.l w (h.cell 7) (h.cell 8) (h.frozen 7) (h.frozen 8)
  have HP : Hid (TkPost w g 9 a (.returned (.bool (opTk a.l).1)) (opW w g 7 a.l)) := Lib.hid ⟨rfl, (bk_op h a.l 7).1 rfl rfl, grown_op w g 7 a.l⟩
  clear h
  generalize opW w g 7 a.l = w2 at *
  generalize (opTk a.l).1 = b at *
  go_enter Tryd.func32, Tryd.ntmps32
  go_wp2_with (go_at_call 39; refine CO.mono ?_; rintro e w1 ⟨rfl, rfl⟩)
  go_ret
  exact HP.out
set_option maxHeartbeats 1600000 in
theorem take_right (g : Nat) (a : Acn) (w : World) (h : Bk w g 32 a.cs) : Calls Tryd.prog 32 #[.int .u8 ((10 : Nat) : Int), .pointer (some ⟨g, 0, none⟩)] w fun e w' => TkPost w g 10 a e w' := by
  have CO := operand_any g 9 a.r w (h.cell 9) (h.cell 10) (h.frozen 9) (h.frozen 10)
  have HP : Hid (TkPost w g 10 a (.returned (.bool (opTk a.r).1)) (opW w g 9 a.r)) := Lib.hid ⟨rfl, (bk_op h a.r 9).2 rfl rfl, grown_op w g 9 a.r⟩
  clear h
  generalize opW w g 9 a.r = w2 at *
  generalize (opTk a.r).1 = b at *
  go_enter Tryd.func32, Tryd.ntmps32
  go_wp2_with (go_at_call 39; refine CO.mono ?_; rintro e w1 ⟨rfl, rfl⟩)
  go_ret
  exact HP.out
set_option maxHeartbeats 1600000 in
theorem take_none (g : Nat) (a : Acn) (w : World) (h : Bk w g 32 a.cs) : Calls Tryd.prog 32 #[.int .u8 ((0 : Nat) : Int), .pointer (some ⟨g, 0, none⟩)] w fun e w' => TkPost w g 0 a e w' := by
  have HP : Hid (TkPost w g 0 a (.returned (.bool true)) w) := Lib.hid ⟨rfl, h, ⟨rfl, rfl, rfl, Nat.le_refl _, fun _ _ _ => rfl⟩⟩
  clear h
  go_enter Tryd.func32, Tryd.ntmps32
  go_wp2_with fail
  go_ret
  exact HP.out
set_option maxHeartbeats 1600000 in
theorem take_sense (g : Nat) (a : Acn) (w : World) (h : Bk w g 32 a.cs) : Calls Tryd.prog 32 #[.int .u8 ((13 : Nat) : Int), .pointer (some ⟨g, 0, none⟩)] w fun e w' => TkPost w g 13 a e w' := by
  have HP : Hid (TkPost w g 13 a (.returned (.bool true)) (w.setCell ⟨g, 11, none⟩ (.bool false))) := Lib.hid ⟨rfl, h.set_ 11 _, grownBy_setC w ⟨g, 11, none⟩ _⟩
  have c : w.cell? ⟨g, 11, none⟩ = some (.bool a.sense) := h.cell 11
  have f := h.frozen 11
  clear h
  generalize a.sense = s at *
  go_enter Tryd.func32, Tryd.ntmps32
  go_wp2_with fail
  go_ret
  exact HP.out
set_option maxHeartbeats 1600000 in
theorem take_order (g : Nat) (a : Acn) (w : World) (h : Bk w g 32 a.cs) : Calls Tryd.prog 32 #[.int .u8 ((12 : Nat) : Int), .pointer (some ⟨g, 0, none⟩)] w fun e w' => TkPost w g 12 a e w' := by
  have CW := within_any g 6 a.op 0 1 w (h.cell 6) (h.frozen 6)
  have HP : Hid (TkPost w g 12 a (.returned (.bool (Ac.within a.op 0 1))) (w.setCell ⟨g, 6, none⟩ (.int .i64 0))) := Lib.hid ⟨rfl, h.set_ 6 _, grownBy_setC w ⟨g, 6, none⟩ _⟩
  clear h
  generalize Ac.within a.op 0 1 = b at *
  go_enter Tryd.func32, Tryd.ntmps32
  go_wp2_with (go_at_call 40; refine CW.mono ?_; rintro e w1 ⟨rfl, rfl⟩)
  go_ret
  exact HP.out
set_option maxHeartbeats 1600000 in
theorem take_more (g : Nat) (a : Acn) (w : World) (h : Bk w g 32 a.cs) : Calls Tryd.prog 32 #[.int .u8 ((11 : Nat) : Int), .pointer (some ⟨g, 0, none⟩)] w fun e w' => TkPost w g 11 a e w' := by
  have CW := within_any g 6 a.op 0 2 w (h.cell 6) (h.frozen 6)
  have hs := h.set_ 6 (.int .i64 0)
  have CO := operand_any g 9 a.r _ (hs.cell 9) (hs.cell 10) (hs.frozen 9) (hs.frozen 10)
  have c6 : w.cell? ⟨g, 6, none⟩ = some (.int .i64 a.op) := h.cell 6
  have gw := grownBy_setC w ⟨g, 6, none⟩ (.int .i64 0)
  by_cases hw : Ac.within a.op 0 2 = true
  · by_cases h0 : a.op = 0
    · have e : tk 11 a = (true, { a with op := 0 }) := by simp only [tk, hw, if_true, if_pos h0]
      have HP : Hid (TkPost w g 11 a (.returned (.bool true)) (w.setCell ⟨g, 6, none⟩ (.int .i64 0))) := Lib.hid ⟨by rw [e], by rw [e]; exact hs, gw⟩
      rw [hw] at CW
      have d0 : (a.op == 0) = true := by rw [beq_iff_eq]; exact h0
      clear h hs CO gw hw h0 e
      generalize a.op = op at *
      go_enter Tryd.func32, Tryd.ntmps32
      go_wp2_with (go_at_call 40; refine CW.mono ?_; rintro e w1 ⟨rfl, rfl⟩)
      go_ret
      exact HP.out
    · have e : tk 11 a = ((opTk a.r).1, { a with op := 0, r := (opTk a.r).2 }) := by simp [tk, hw, h0]
      have HP : Hid (TkPost w g 11 a (.returned (.bool (opTk a.r).1)) (opW (w.setCell ⟨g, 6, none⟩ (.int .i64 0)) g 9 a.r)) := Lib.hid ⟨by rw [e], by
        rw [e]; exact (bk_op (a := { a with op := 0 }) hs a.r 9).2 rfl rfl, grownBy_tr gw (grown_op _ g 9 a.r)⟩
      rw [hw] at CW
      have d0 : (a.op == 0) = false := by rw [beq_eq_false_iff_ne]; exact h0
      clear h hs gw hw h0 e
      generalize opW (w.setCell ⟨g, 6, none⟩ (.int .i64 0)) g 9 a.r = w2 at *
      generalize (opTk a.r).1 = b at *
      generalize a.op = op at *
      go_enter Tryd.func32, Tryd.ntmps32
      go_wp2_with (first | (go_at_call 40; refine CW.mono ?_; rintro e w1 ⟨rfl, rfl⟩) | (go_at_call 39; refine CO.mono ?_; rintro e w1 ⟨rfl, rfl⟩))
      go_ret
      exact HP.out
  · have e : tk 11 a = (false, { a with op := 0 }) := by simp [tk, hw]
    have HP : Hid (TkPost w g 11 a (.returned (.bool false)) (w.setCell ⟨g, 6, none⟩ (.int .i64 0))) := Lib.hid ⟨by rw [e], by rw [e]; exact hs, gw⟩
    have hw' : Ac.within a.op 0 2 = false := by simpa using hw
    rw [hw'] at CW
    clear h hs CO gw hw hw' e
    generalize a.op = op at *
    go_enter Tryd.func32, Tryd.ntmps32
    go_wp2_with (go_at_call 40; refine CW.mono ?_; rintro e w1 ⟨rfl, rfl⟩)
    go_ret
    exact HP.out
theorem num_cell (a : Acn) (p : Nat) (hp : 1 ≤ p ∧ p ≤ 8) : a.cs[atOf p]? = some (.int .i64 (numOf p a)) := by
  have h : p = 1 ∨ p = 2 ∨ p = 3 ∨ p = 4 ∨ p = 5 ∨ p = 6 ∨ p = 7 ∨ p = 8 := by omega
  rcases h with rfl | rfl | rfl | rfl | rfl | rfl | rfl | rfl <;> rfl
theorem num_set (a : Acn) (p : Nat) (hp : 1 ≤ p ∧ p ≤ 8) (n : Int) : a.cs.setIfInBounds (atOf p) (.int .i64 n) = (setNum p a n).cs := by
  have h : p = 1 ∨ p = 2 ∨ p = 3 ∨ p = 4 ∨ p = 5 ∨ p = 6 ∨ p = 7 ∨ p = 8 := by omega
  rcases h with rfl | rfl | rfl | rfl | rfl | rfl | rfl | rfl <;> rfl
theorem tk_num (p : Nat) (hp : 1 ≤ p ∧ p ≤ 8) (a : Acn) : tk p a = (Ac.within (numOf p a) (loOf p) (hiOf p), setNum p a 0) := by
  have h : p = 1 ∨ p = 2 ∨ p = 3 ∨ p = 4 ∨ p = 5 ∨ p = 6 ∨ p = 7 ∨ p = 8 := by omega
  rcases h with rfl | rfl | rfl | rfl | rfl | rfl | rfl | rfl <;> rfl
set_option maxHeartbeats 1600000 in
set_option maxRecDepth 100000 in
theorem take_num (g p : Nat) (hp : 1 ≤ p ∧ p ≤ 8) (a : Acn) (w : World) (h : Bk w g 32 a.cs) (hG : Gl w) : Calls Tryd.prog 32 #[.int .u8 (p : Int), .pointer (some ⟨g, 0, none⟩)] w fun e w' => TkPost w g p a e w' := by
  have cl := hG.lo p (by omega)
  have ch := hG.hi p (by omega)
  have HP : Hid (TkPost w g p a (.returned (.bool (Ac.within (numOf p a) (loOf p) (hiOf p)))) (w.drew.setCell ⟨g, atOf p, none⟩ (.int .i64 0))) := Lib.hid ⟨by rw [tk_num p hp], by
    rw [tk_num p hp, ← num_set a p hp 0]; exact (h.drewN 1).set_ _ _, grownBy_tr (grownBy_drewN ⟨rfl, rfl, rfl, Nat.le_refl _, fun _ _ _ => rfl⟩ 1) (grownBy_setC w.drew ⟨g, atOf p, none⟩ _)⟩
  have CW : Hid (Calls Tryd.prog 40 #[.pointer (some ⟨g, atOf p, none⟩), .int .i64 (loOf p), .int .i64 (hiOf p)] w.drew fun e w' => e = .returned (.bool (Ac.within (numOf p a) (loOf p) (hiOf p))) ∧ w' = w.drew.setCell ⟨g, atOf p, none⟩ (.int .i64 0)) :=
    Lib.hid (within_any g (atOf p) (numOf p a) (loOf p) (hiOf p) w.drew (((h.drewN 1).cell _).trans (num_cell a p hp)) ((h.drewN 1).frozen _))
  have CN : Hid (∀ w, Calls Tryd.prog 41 #[.int .u8 (p : Int), .pointer (some ⟨g, 0, none⟩)] w fun e w' => e = .returned (.pointer (some ⟨g, atOf p, none⟩)) ∧ w = w') := Lib.hid fun w => number_any p g w hp
  clear h hG
  generalize Ac.within (numOf p a) (loOf p) (hiOf p) = b at *
  generalize atOf p = q at *
  have h : p = 1 ∨ p = 2 ∨ p = 3 ∨ p = 4 ∨ p = 5 ∨ p = 6 ∨ p = 7 ∨ p = 8 := by omega
  clear hp
  rcases h with rfl | rfl | rfl | rfl | rfl | rfl | rfl | rfl
  · have cl' : w.cell? ⟨2, 4, none⟩ = some (.int .i64 (0)) := cl
    have ch' : w.cell? ⟨2, 5, none⟩ = some (.int .i64 23) := ch
    replace CW : Hid (Calls Tryd.prog 40 #[.pointer (some ⟨g, q, none⟩), .int .i64 (0), .int .i64 23] w.drew fun e w' => e = .returned (.bool b) ∧ w' = w.drew.setCell ⟨g, q, none⟩ (.int .i64 0)) := CW
    clear cl ch
    have CN1 : Calls Tryd.prog 41 #[.int .u8 1, .pointer (some ⟨g, 0, none⟩)] w.drew fun e w' => e = .returned (.pointer (some ⟨g, q, none⟩)) ∧ w' = w.drew := (CN.out w.drew).mono fun _ _ h => ⟨h.1, h.2.symm⟩
    replace CN1 := Lib.hid CN1
    clear CN
    go_enter Tryd.func32, Tryd.ntmps32
    go_wp2_with fail
    refine wp_region_still_tail 11 (by kernel_rfl) (by kernel_rfl) ?_
    simp only [List.take_succ_cons, List.take_zero, List.drop_succ_cons, List.drop_zero]
    repeat (first | still_step | still_call CN1.out)
    refine wpStill_nil ?_
    change wpList _ _ _ _ _ w.drew
    go_wp2_with (go_at_call 40; (with_reducible refine CW.out.mono ?_); rintro e w1 ⟨rfl, rfl⟩)
    go_ret
    exact HP.out
  · have cl' : w.cell? ⟨2, 7, none⟩ = some (.int .i64 (0)) := cl
    have ch' : w.cell? ⟨2, 8, none⟩ = some (.int .i64 23) := ch
    replace CW : Hid (Calls Tryd.prog 40 #[.pointer (some ⟨g, q, none⟩), .int .i64 (0), .int .i64 23] w.drew fun e w' => e = .returned (.bool b) ∧ w' = w.drew.setCell ⟨g, q, none⟩ (.int .i64 0)) := CW
    clear cl ch
    have CN1 : Calls Tryd.prog 41 #[.int .u8 2, .pointer (some ⟨g, 0, none⟩)] w.drew fun e w' => e = .returned (.pointer (some ⟨g, q, none⟩)) ∧ w' = w.drew := (CN.out w.drew).mono fun _ _ h => ⟨h.1, h.2.symm⟩
    replace CN1 := Lib.hid CN1
    clear CN
    go_enter Tryd.func32, Tryd.ntmps32
    go_wp2_with fail
    refine wp_region_still_tail 11 (by kernel_rfl) (by kernel_rfl) ?_
    simp only [List.take_succ_cons, List.take_zero, List.drop_succ_cons, List.drop_zero]
    repeat (first | still_step | still_call CN1.out)
    refine wpStill_nil ?_
    change wpList _ _ _ _ _ w.drew
    go_wp2_with (go_at_call 40; (with_reducible refine CW.out.mono ?_); rintro e w1 ⟨rfl, rfl⟩)
    go_ret
    exact HP.out
  · have cl' : w.cell? ⟨2, 10, none⟩ = some (.int .i64 (-1)) := cl
    have ch' : w.cell? ⟨2, 11, none⟩ = some (.int .i64 23) := ch
    replace CW : Hid (Calls Tryd.prog 40 #[.pointer (some ⟨g, q, none⟩), .int .i64 (-1), .int .i64 23] w.drew fun e w' => e = .returned (.bool b) ∧ w' = w.drew.setCell ⟨g, q, none⟩ (.int .i64 0)) := CW
    clear cl ch
    have CN1 : Calls Tryd.prog 41 #[.int .u8 3, .pointer (some ⟨g, 0, none⟩)] w.drew fun e w' => e = .returned (.pointer (some ⟨g, q, none⟩)) ∧ w' = w.drew := (CN.out w.drew).mono fun _ _ h => ⟨h.1, h.2.symm⟩
    replace CN1 := Lib.hid CN1
    clear CN
    go_enter Tryd.func32, Tryd.ntmps32
    go_wp2_with fail
    refine wp_region_still_tail 11 (by kernel_rfl) (by kernel_rfl) ?_
    simp only [List.take_succ_cons, List.take_zero, List.drop_succ_cons, List.drop_zero]
    repeat (first | still_step | still_call CN1.out)
    refine wpStill_nil ?_
    change wpList _ _ _ _ _ w.drew
    go_wp2_with (go_at_call 40; (with_reducible refine CW.out.mono ?_); rintro e w1 ⟨rfl, rfl⟩)
    go_ret
    exact HP.out
  · have cl' : w.cell? ⟨2, 13, none⟩ = some (.int .i64 (-1)) := cl
    have ch' : w.cell? ⟨2, 14, none⟩ = some (.int .i64 23) := ch
    replace CW : Hid (Calls Tryd.prog 40 #[.pointer (some ⟨g, q, none⟩), .int .i64 (-1), .int .i64 23] w.drew fun e w' => e = .returned (.bool b) ∧ w' = w.drew.setCell ⟨g, q, none⟩ (.int .i64 0)) := CW
    clear cl ch
    have CN1 : Calls Tryd.prog 41 #[.int .u8 4, .pointer (some ⟨g, 0, none⟩)] w.drew fun e w' => e = .returned (.pointer (some ⟨g, q, none⟩)) ∧ w' = w.drew := (CN.out w.drew).mono fun _ _ h => ⟨h.1, h.2.symm⟩
    replace CN1 := Lib.hid CN1
    clear CN
    go_enter Tryd.func32, Tryd.ntmps32
    go_wp2_with fail
    refine wp_region_still_tail 11 (by kernel_rfl) (by kernel_rfl) ?_
    simp only [List.take_succ_cons, List.take_zero, List.drop_succ_cons, List.drop_zero]
    repeat (first | still_step | still_call CN1.out)
    refine wpStill_nil ?_
    change wpList _ _ _ _ _ w.drew
    go_wp2_with (go_at_call 40; (with_reducible refine CW.out.mono ?_); rintro e w1 ⟨rfl, rfl⟩)
    go_ret
    exact HP.out
  · have cl' : w.cell? ⟨2, 16, none⟩ = some (.int .i64 (0)) := cl
    have ch' : w.cell? ⟨2, 17, none⟩ = some (.int .i64 23) := ch
    replace CW : Hid (Calls Tryd.prog 40 #[.pointer (some ⟨g, q, none⟩), .int .i64 (0), .int .i64 23] w.drew fun e w' => e = .returned (.bool b) ∧ w' = w.drew.setCell ⟨g, q, none⟩ (.int .i64 0)) := CW
    clear cl ch
    have CN1 : Calls Tryd.prog 41 #[.int .u8 5, .pointer (some ⟨g, 0, none⟩)] w.drew fun e w' => e = .returned (.pointer (some ⟨g, q, none⟩)) ∧ w' = w.drew := (CN.out w.drew).mono fun _ _ h => ⟨h.1, h.2.symm⟩
    replace CN1 := Lib.hid CN1
    clear CN
    go_enter Tryd.func32, Tryd.ntmps32
    go_wp2_with fail
    refine wp_region_still_tail 11 (by kernel_rfl) (by kernel_rfl) ?_
    simp only [List.take_succ_cons, List.take_zero, List.drop_succ_cons, List.drop_zero]
    repeat (first | still_step | still_call CN1.out)
    refine wpStill_nil ?_
    change wpList _ _ _ _ _ w.drew
    go_wp2_with (go_at_call 40; (with_reducible refine CW.out.mono ?_); rintro e w1 ⟨rfl, rfl⟩)
    go_ret
    exact HP.out
  · have cl' : w.cell? ⟨2, 19, none⟩ = some (.int .i64 (0)) := cl
    have ch' : w.cell? ⟨2, 20, none⟩ = some (.int .i64 7) := ch
    replace CW : Hid (Calls Tryd.prog 40 #[.pointer (some ⟨g, q, none⟩), .int .i64 (0), .int .i64 7] w.drew fun e w' => e = .returned (.bool b) ∧ w' = w.drew.setCell ⟨g, q, none⟩ (.int .i64 0)) := CW
    clear cl ch
    have CN1 : Calls Tryd.prog 41 #[.int .u8 6, .pointer (some ⟨g, 0, none⟩)] w.drew fun e w' => e = .returned (.pointer (some ⟨g, q, none⟩)) ∧ w' = w.drew := (CN.out w.drew).mono fun _ _ h => ⟨h.1, h.2.symm⟩
    replace CN1 := Lib.hid CN1
    clear CN
    go_enter Tryd.func32, Tryd.ntmps32
    go_wp2_with fail
    refine wp_region_still_tail 11 (by kernel_rfl) (by kernel_rfl) ?_
    simp only [List.take_succ_cons, List.take_zero, List.drop_succ_cons, List.drop_zero]
    repeat (first | still_step | still_call CN1.out)
    refine wpStill_nil ?_
    change wpList _ _ _ _ _ w.drew
    go_wp2_with (go_at_call 40; (with_reducible refine CW.out.mono ?_); rintro e w1 ⟨rfl, rfl⟩)
    go_ret
    exact HP.out
  · have cl' : w.cell? ⟨2, 22, none⟩ = some (.int .i64 (0)) := cl
    have ch' : w.cell? ⟨2, 23, none⟩ = some (.int .i64 7) := ch
    replace CW : Hid (Calls Tryd.prog 40 #[.pointer (some ⟨g, q, none⟩), .int .i64 (0), .int .i64 7] w.drew fun e w' => e = .returned (.bool b) ∧ w' = w.drew.setCell ⟨g, q, none⟩ (.int .i64 0)) := CW
    clear cl ch
    have CN1 : Calls Tryd.prog 41 #[.int .u8 7, .pointer (some ⟨g, 0, none⟩)] w.drew fun e w' => e = .returned (.pointer (some ⟨g, q, none⟩)) ∧ w' = w.drew := (CN.out w.drew).mono fun _ _ h => ⟨h.1, h.2.symm⟩
    replace CN1 := Lib.hid CN1
    clear CN
    go_enter Tryd.func32, Tryd.ntmps32
    go_wp2_with fail
    refine wp_region_still_tail 11 (by kernel_rfl) (by kernel_rfl) ?_
    simp only [List.take_succ_cons, List.take_zero, List.drop_succ_cons, List.drop_zero]
    repeat (first | still_step | still_call CN1.out)
    refine wpStill_nil ?_
    change wpList _ _ _ _ _ w.drew
    go_wp2_with (go_at_call 40; (with_reducible refine CW.out.mono ?_); rintro e w1 ⟨rfl, rfl⟩)
    go_ret
    exact HP.out
  · have cl' : w.cell? ⟨2, 25, none⟩ = some (.int .i64 (0)) := cl
    have ch' : w.cell? ⟨2, 26, none⟩ = some (.int .i64 65536) := ch
    replace CW : Hid (Calls Tryd.prog 40 #[.pointer (some ⟨g, q, none⟩), .int .i64 (0), .int .i64 65536] w.drew fun e w' => e = .returned (.bool b) ∧ w' = w.drew.setCell ⟨g, q, none⟩ (.int .i64 0)) := CW
    clear cl ch
    have CN1 : Calls Tryd.prog 41 #[.int .u8 8, .pointer (some ⟨g, 0, none⟩)] w.drew fun e w' => e = .returned (.pointer (some ⟨g, q, none⟩)) ∧ w' = w.drew := (CN.out w.drew).mono fun _ _ h => ⟨h.1, h.2.symm⟩
    replace CN1 := Lib.hid CN1
    clear CN
    go_enter Tryd.func32, Tryd.ntmps32
    go_wp2_with fail
    refine wp_region_still_tail 11 (by kernel_rfl) (by kernel_rfl) ?_
    simp only [List.take_succ_cons, List.take_zero, List.drop_succ_cons, List.drop_zero]
    repeat (first | still_step | still_call CN1.out)
    refine wpStill_nil ?_
    change wpList _ _ _ _ _ w.drew
    go_wp2_with (go_at_call 40; (with_reducible refine CW.out.mono ?_); rintro e w1 ⟨rfl, rfl⟩)
    go_ret
    exact HP.out
end Go.Proofs.YtnkimfbdcghgpaaDoor
