/-
  DERIVED. The walks of operandOf and sum.
-/
import Derived.Test.YtkieiclionkllaaDoorDa
namespace Go.Proofs.YtkieiclionkllaaDoor
open Go.RowKit Go.Sort
open Ac

theorem pre_one (l : List UInt8) (c : UInt8) : Lib.hasPrefix l [c] = decide (l.head? = some c) := by
  unfold Lib.hasPrefix
  cases l with
  | nil => simp [List.isPrefixOf]
  | cons d r =>
    rw [Bool.eq_iff_iff]
    simp [List.isPrefixOf]
    exact eq_comm
theorem prefix_any (l : List UInt8) (c : UInt8) (w : World) : Calls Tryd.prog 40 #[.string (bt l), .string ⟨#[c]⟩] w fun e w' => e = .returned (.bool (decide (l.head? = some c))) ∧ w' = w := by
  refine (Tryd.strings_HasPrefix (bt l) ⟨#[c]⟩ w).mono fun e w' hh => ⟨?_, hh.2⟩
  rw [hh.1, ← pre_one]; rfl
theorem size23 : (Tryd.prog.info? 23).map (·.size) = some 2 := by kernel_rfl
def oc (o : Opd) : Array Value := #[.int .i64 o.v, .int .i64 o.n]
theorem oc_one (o : Opd) : (oc o).all (·.oneCell') = true := by simp [oc, Value.oneCell']
set_option maxHeartbeats 1600000 in
theorem operand_of (l : List UInt8) (hl : l.length ≤ 100000) (w : World) (hG : Gl w) : Calls Tryd.prog 35 #[.string (bt l)] w fun e w' => e = .returned (.agg (oc (operandOf l))) ∧ Below w.heap.size w w' := by
  obtain ⟨wA, hwA⟩ : ∃ wA : World, wA = w.alloc (.cells #[.int .i64 0, .int .i64 0] 23) := ⟨_, rfl⟩
  have HBA : Hid (Below w.heap.size w wA) := Lib.hid (by rw [hwA]; exact (Below.refl _ _).alloc (Nat.le_refl _) _)
  have HK : Hid (Bk wA w.heap.size 23 #[.int .i64 0, .int .i64 0]) := Lib.hid (by rw [hwA]; exact heap_alloc_new _ _)
  have HG : Hid (Gl wA) := Lib.hid (hG.below HBA.out (by have := hG.big; omega))
  have CP := Lib.hid (prefix_any l 105 wA)
  by_cases h : l.head? = some 105
  · have HR : Hid (oc (operandOf l) = #[.int .i64 (numberOf l), .int .i64 0]) := Lib.hid (by unfold operandOf; rw [if_pos h]; rfl)
    have CN := Lib.hid (number_of l hl wA HG.out)
    rw [decide_eq_true h] at CP
    clear h hG hl
    generalize numberOf l = n at *
    generalize bt l = t at *
    go_enter Tryd.func35, Tryd.ntmps35
    go_upto_region 1 with fail
    rw [← hwA]
    clear hwA
    go_wp2_with (first
      | (go_at_call 40; refine CP.out.mono ?_; rintro e w1 ⟨rfl, rfl⟩)
      | (go_at_call 37; refine CN.out.mono ?_; rintro e w2 ⟨rfl, hb⟩; have HB2 := Lib.hid hb; have HK2 := Lib.hid (HK.out.below hb HK.out.lt); clear hb)
      | ((with_reducible show wpList _ _ _ (Oper.mk _ (Op.store 23 _ _) _ _ _ _ :: _) _ _); refine wpList_store_bk rfl 23 _ _ rfl w.heap.size 23 _ #[.int .i64 n, .int .i64 0] rfl rfl HK2.out size23 rfl (oc_one ⟨n, 0⟩) ?_; intro w3 hk3 hg3; have HK3 := Lib.hid hk3; have HG3 := Lib.hid hg3; clear hk3 hg3))
    exact bodyPost_ret (results_cell_row Tryd.results35 _ w3 w.heap.size 23 #[.int .i64 n, .int .i64 0] (0, 0) _ rfl HK3.out Tryd.underlying23 rfl size23) rfl ⟨by rw [HR.out], (HBA.out.trans (HB2.out.mono HBA.out.size)).trans (below_of_grown HG3.out (Nat.le_refl _) (Nat.le_trans HBA.out.size HB2.out.size))⟩
  · have HR : Hid (oc (operandOf l) = #[.int .i64 (-1), .int .i64 (atoiN l)]) := Lib.hid (by unfold operandOf; rw [if_neg h]; rfl)
    have CN := Lib.hid (atoi_any l hl wA HG.out)
    rw [decide_eq_false h] at CP
    clear h hG hl
    generalize atoiN l = n at *
    generalize bt l = t at *
    go_enter Tryd.func35, Tryd.ntmps35
    go_upto_region 1 with fail
    rw [← hwA]
    clear hwA
    go_wp2_with (first
      | (go_at_call 40; refine CP.out.mono ?_; rintro e w1 ⟨rfl, rfl⟩)
      | (go_at_call 41; refine CN.out.mono ?_; rintro e w2 ⟨v, rfl, hb⟩; have HB2 := Lib.hid hb; have HK2 := Lib.hid (HK.out.below hb HK.out.lt); clear hb)
      | ((with_reducible show wpList _ _ _ (Oper.mk _ (Op.store 23 _ _) _ _ _ _ :: _) _ _); refine wpList_store_bk rfl 23 _ _ rfl w.heap.size 23 _ #[.int .i64 (-1), .int .i64 n] rfl rfl HK2.out size23 rfl (oc_one ⟨-1, n⟩) ?_; intro w3 hk3 hg3; have HK3 := Lib.hid hk3; have HG3 := Lib.hid hg3; clear hk3 hg3))
    exact bodyPost_ret (results_cell_row Tryd.results35 _ w3 w.heap.size 23 #[.int .i64 (-1), .int .i64 n] (0, 0) _ rfl HK3.out Tryd.underlying23 rfl size23) rfl ⟨by rw [HR.out], (HBA.out.trans (HB2.out.mono HBA.out.size)).trans (below_of_grown HG3.out (Nat.le_refl _) (Nat.le_trans HBA.out.size HB2.out.size))⟩
namespace Ac
def sumN (l : List UInt8) : Int := if l.head? = some 43 then 1 else if l.head? = some 45 then 2 else 0
def sumR (l : List UInt8) : List UInt8 := if l.head? = some 43 ∨ l.head? = some 45 then (cutAt l).2 else l
end Ac
def SmPost (w : World) (R : Nat) (l : List UInt8) (e : Ending) (w' : World) : Prop := e = .returned (.int .i64 (sumN l)) ∧ Rd w' R (sumR l) ∧ w.grownBy w' (some R)
theorem nx_sum {w wr w' : World} {R : Nat} {l : List UInt8} {e : Ending} (h : NxPost wr R l e w') (hg : w.grownBy wr (some R)) (hh : l.head? = some 43 ∨ l.head? = some 45) : Rd w' R (sumR l) ∧ w.grownBy w' (some R) := by
  unfold sumR
  rw [if_pos hh]
  exact ⟨h.2.1, hg.trans h.2.2⟩
set_option maxHeartbeats 1600000 in
set_option maxRecDepth 100000 in
theorem sum_any (R : Nat) (l : List UInt8) (w : World) (h : Rd w R l) (hG : Gl w) (hR : 11 ≤ R) : Calls Tryd.prog 36 #[.pointer (some ⟨R, 0, none⟩)] w fun e w' => SmPost w R l e w' := by
  have HG := Lib.hid hG
  have HRd := Lib.hid h
  have HR11 := Lib.hid hR
  clear h hG hR
  go_enter Tryd.func36, Tryd.ntmps36
  go_wp2_with fail
  go_loopw [3] (fun i wr => ∃ k : Nat, 1 ≤ k ∧ k ≤ 3 ∧ i = .int .i64 k ∧ Hid (Rd wr R l) ∧ Hid (w.grownBy wr (some R)) ∧ Hid (2 ≤ k → l.head? ≠ some 43) ∧ Hid (3 ≤ k → l.head? ≠ some 45)) (fun i _ => 3 - (intOf i).toNat)
  case atStart => exact ⟨1, by omega, by omega, rfl, HRd, Lib.hid ⟨rfl, rfl, rfl, Nat.le_refl _, fun _ _ _ => rfl⟩, Lib.hid (fun h => absurd h (by omega)), Lib.hid (fun h => absurd h (by omega))⟩
  case round =>
    obtain ⟨k, hk1, hk3, rfl, HK, HGW, H43, H45⟩ := hrel
    have hk : k = 1 ∨ k = 2 ∨ k = 3 := by omega
    clear hk1 hk3
    have HGR : Hid (Gl wr) := Lib.hid (HG.out.grown HGW.out HR11.out)
    have c0 : wr.cell? ⟨R, 0, none⟩ = some (.string (bt l)) := HK.out.1.cell 0
    rcases hk with rfl | rfl | rfl
    · have c3 : wr.cell? ⟨3, 1, none⟩ = some (.string ⟨#[43]⟩) := HGR.out.sums 1 (by omega)
      have CP := Lib.hid (fun w => prefix_any l 43 w)
      have CN := Lib.hid (fun n => next_any R l (wr.drewN n) ⟨HK.out.1.drewN n, HK.out.2⟩ (HGR.out.of (fun _ _ => rfl) (Nat.le_refl _)))
      by_cases hh : l.head? = some 43
      · rw [decide_eq_true hh] at CP
        have HS : Hid (sumN l = 1) := Lib.hid (by unfold sumN; rw [if_pos hh])
        have HH := Lib.hid hh
        clear hh
        generalize bt l = t at c0 CP
        go_wp2_with fail
        go_quiet ((go_at_call 40; exact Calls.quiet_of_same (CP.out _)))
        go_wp2_with (go_at_call 27; refine (CN.out _).mono ?_; rintro e w2 hn; obtain rfl := hn.1; have HN := Lib.hid hn; clear hn)
        go_ret
        have hx := nx_sum (w := w) HN.out (grownBy_drewN HGW.out _) (.inl HH.out)
        exact ⟨lret_int HS.out.symm, hx.1, hx.2⟩
      · rw [decide_eq_false hh] at CP
        have HH : Hid (2 ≤ 2 → l.head? ≠ some 43) := Lib.hid (fun _ => hh)
        clear hh
        generalize bt l = t at c0 CP
        go_wp2_with fail
        go_quiet ((go_at_call 40; exact Calls.quiet_of_same (CP.out _)))
        go_wp2_with fail
        go_roundw
        case rel => exact ⟨2, by omega, by omega, by go_num, Lib.hid ⟨HK.out.1.drewN _, HK.out.2⟩, Lib.hid (grownBy_drewN HGW.out _), HH, Lib.hid (fun h => absurd h (by omega))⟩
        case measure => simp [intOf]
    · have c3 : wr.cell? ⟨3, 2, none⟩ = some (.string ⟨#[45]⟩) := HGR.out.sums 2 (by omega)
      have CP := Lib.hid (fun w => prefix_any l 45 w)
      have CN := Lib.hid (fun n => next_any R l (wr.drewN n) ⟨HK.out.1.drewN n, HK.out.2⟩ (HGR.out.of (fun _ _ => rfl) (Nat.le_refl _)))
      by_cases hh : l.head? = some 45
      · rw [decide_eq_true hh] at CP
        have HS : Hid (sumN l = 2) := Lib.hid (by unfold sumN; rw [if_neg (H43.out (by omega)), if_pos hh])
        have HH := Lib.hid hh
        clear hh
        generalize bt l = t at c0 CP
        go_wp2_with fail
        go_quiet ((go_at_call 40; exact Calls.quiet_of_same (CP.out _)))
        go_wp2_with (go_at_call 27; refine (CN.out _).mono ?_; rintro e w2 hn; obtain rfl := hn.1; have HN := Lib.hid hn; clear hn)
        go_ret
        have hx := nx_sum (w := w) HN.out (grownBy_drewN HGW.out _) (.inr HH.out)
        exact ⟨lret_int HS.out.symm, hx.1, hx.2⟩
      · rw [decide_eq_false hh] at CP
        have HH : Hid (3 ≤ 3 → l.head? ≠ some 45) := Lib.hid (fun _ => hh)
        clear hh
        generalize bt l = t at c0 CP
        go_wp2_with fail
        go_quiet ((go_at_call 40; exact Calls.quiet_of_same (CP.out _)))
        go_wp2_with fail
        go_roundw
        case rel => exact ⟨3, by omega, by omega, by go_num, Lib.hid ⟨HK.out.1.drewN _, HK.out.2⟩, Lib.hid (grownBy_drewN HGW.out _), Lib.hid (fun _ => H43.out (by omega)), HH⟩
        case measure => simp [intOf]
    · have HS : Hid (sumN l = 0) := Lib.hid (by unfold sumN; rw [if_neg (H43.out (by omega)), if_neg (H45.out (by omega))])
      have HS2 : Hid (sumR l = l) := Lib.hid (by unfold sumR; rw [if_neg (by rintro (e | e); exact H43.out (by omega) e; exact H45.out (by omega) e)])
      go_wp2_with fail
      go_ret
      exact ⟨lret_int HS.out.symm, by rw [HS2.out]; exact HK.out, HGW.out⟩
end Go.Proofs.YtkieiclionkllaaDoor
