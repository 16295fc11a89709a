/-
  DERIVED. The walks of Branch, Needs, Not (of both), and of the law's lives.
-/
import Derived.Test.YtkieiclionkllaaDoorEb
namespace Go.Proofs.YtkieiclionkllaaDoor
open Go.RowKit Go.Sort
open Ac

set_option maxHeartbeats 800000 in
theorem branch_any (a : Acn) (w : World) : Calls Tryd.prog 9 #[.agg a.cs] w fun e w' => e = .returned (.bool (branch a)) ∧ Below w.heap.size w w' := by
  have HB0 : Hid (Bk (w.alloc (.cells a.cs 25)) w.heap.size 25 a.cs) := Lib.hid (heap_alloc_new _ _)
  have c0 : (w.alloc (.cells a.cs 25)).cell? ⟨w.heap.size, 0, none⟩ = some (.int .i64 a.kind) := HB0.out.cell 0
  have HR : Hid (branch a = decide (a.kind = 8 ∨ a.kind = 9 ∨ a.kind = 12)) := Lib.hid rfl
  generalize a.kind = k at *
  have hc : k = 8 ∨ k = 9 ∨ k = 12 ∨ ((k == 8) = false ∧ (k == 9) = false ∧ (k == 12) = false) := by simp only [beq_eq_false_iff_ne]; omega
  rcases hc with rfl | rfl | rfl | ⟨h1, h2, h3⟩
  · go_enter Tryd.func9, Tryd.ntmps9
    go_wp2_with fail
    go_ret
    exact ⟨lret_bool (by rw [HR.out]; rfl), (Below.refl _ _).alloc (Nat.le_refl _) _⟩
  · go_enter Tryd.func9, Tryd.ntmps9
    go_wp2_with fail
    go_ret
    exact ⟨lret_bool (by rw [HR.out]; rfl), (Below.refl _ _).alloc (Nat.le_refl _) _⟩
  · go_enter Tryd.func9, Tryd.ntmps9
    go_wp2_with fail
    go_ret
    exact ⟨lret_bool (by rw [HR.out]; rfl), (Below.refl _ _).alloc (Nat.le_refl _) _⟩
  · have HN : Hid (branch a = false) := Lib.hid (by rw [HR.out, decide_eq_false_iff_not]; simp only [beq_eq_false_iff_ne] at h1 h2 h3; omega)
    go_enter Tryd.func9, Tryd.ntmps9
    go_wp2_with fail
    go_ret
    exact ⟨lret_bool HN.out.symm, (Below.refl _ _).alloc (Nat.le_refl _) _⟩
set_option maxHeartbeats 800000 in
theorem rbranch_any (a : Acn) (w : World) : Calls Tryd.prog 10 #[.agg a.cs] w fun e w' => e = .returned (.bool (branch a)) ∧ Below w.heap.size w w' := by
  have HB0 : Hid (Bk (w.alloc (.cells a.cs 25)) w.heap.size 25 a.cs) := Lib.hid (heap_alloc_new _ _)
  have c0 : (w.alloc (.cells a.cs 25)).cell? ⟨w.heap.size, 0, none⟩ = some (.int .i64 a.kind) := HB0.out.cell 0
  have HR : Hid (branch a = decide (a.kind = 8 ∨ a.kind = 9 ∨ a.kind = 12)) := Lib.hid rfl
  generalize a.kind = k at *
  have hc : k = 8 ∨ k = 9 ∨ k = 12 ∨ ((k == 8) = false ∧ (k == 9) = false ∧ (k == 12) = false) := by simp only [beq_eq_false_iff_ne]; omega
  rcases hc with rfl | rfl | rfl | ⟨h1, h2, h3⟩
  · go_enter Tryd.func10, Tryd.ntmps10
    go_wp2_with fail
    go_ret
    exact ⟨lret_bool (by rw [HR.out]; rfl), (Below.refl _ _).alloc (Nat.le_refl _) _⟩
  · go_enter Tryd.func10, Tryd.ntmps10
    go_wp2_with fail
    go_ret
    exact ⟨lret_bool (by rw [HR.out]; rfl), (Below.refl _ _).alloc (Nat.le_refl _) _⟩
  · go_enter Tryd.func10, Tryd.ntmps10
    go_wp2_with fail
    go_ret
    exact ⟨lret_bool (by rw [HR.out]; rfl), (Below.refl _ _).alloc (Nat.le_refl _) _⟩
  · have HN : Hid (branch a = false) := Lib.hid (by rw [HR.out, decide_eq_false_iff_not]; simp only [beq_eq_false_iff_ne] at h1 h2 h3; omega)
    go_enter Tryd.func10, Tryd.ntmps10
    go_wp2_with fail
    go_ret
    exact ⟨lret_bool HN.out.symm, (Below.refl _ _).alloc (Nat.le_refl _) _⟩
set_option maxHeartbeats 800000 in
theorem needs_any (a : Acn) (w : World) : Calls Tryd.prog 11 #[.agg a.cs] w fun e w' => e = .returned (.bool (needs a)) ∧ Below w.heap.size w w' := by
  have HB0 : Hid (Bk (w.alloc (.cells a.cs 25)) w.heap.size 25 a.cs) := Lib.hid (heap_alloc_new _ _)
  have c0 : (w.alloc (.cells a.cs 25)).cell? ⟨w.heap.size, 0, none⟩ = some (.int .i64 a.kind) := HB0.out.cell 0
  have HR : Hid (needs a = decide (a.kind = 6 ∨ a.kind = 9 ∨ a.kind = 10)) := Lib.hid rfl
  generalize a.kind = k at *
  have hc : k = 6 ∨ k = 9 ∨ k = 10 ∨ ((k == 6) = false ∧ (k == 9) = false ∧ (k == 10) = false) := by simp only [beq_eq_false_iff_ne]; omega
  rcases hc with rfl | rfl | rfl | ⟨h1, h2, h3⟩
  · go_enter Tryd.func11, Tryd.ntmps11
    go_wp2_with fail
    go_ret
    exact ⟨lret_bool (by rw [HR.out]; rfl), (Below.refl _ _).alloc (Nat.le_refl _) _⟩
  · go_enter Tryd.func11, Tryd.ntmps11
    go_wp2_with fail
    go_ret
    exact ⟨lret_bool (by rw [HR.out]; rfl), (Below.refl _ _).alloc (Nat.le_refl _) _⟩
  · go_enter Tryd.func11, Tryd.ntmps11
    go_wp2_with fail
    go_ret
    exact ⟨lret_bool (by rw [HR.out]; rfl), (Below.refl _ _).alloc (Nat.le_refl _) _⟩
  · have HN : Hid (needs a = false) := Lib.hid (by rw [HR.out, decide_eq_false_iff_not]; simp only [beq_eq_false_iff_ne] at h1 h2 h3; omega)
    go_enter Tryd.func11, Tryd.ntmps11
    go_wp2_with fail
    go_ret
    exact ⟨lret_bool HN.out.symm, (Below.refl _ _).alloc (Nat.le_refl _) _⟩
set_option maxHeartbeats 800000 in
theorem rneeds_any (a : Acn) (w : World) : Calls Tryd.prog 12 #[.agg a.cs] w fun e w' => e = .returned (.bool (needs a)) ∧ Below w.heap.size w w' := by
  have HB0 : Hid (Bk (w.alloc (.cells a.cs 25)) w.heap.size 25 a.cs) := Lib.hid (heap_alloc_new _ _)
  have c0 : (w.alloc (.cells a.cs 25)).cell? ⟨w.heap.size, 0, none⟩ = some (.int .i64 a.kind) := HB0.out.cell 0
  have HR : Hid (needs a = decide (a.kind = 6 ∨ a.kind = 9 ∨ a.kind = 10)) := Lib.hid rfl
  generalize a.kind = k at *
  have hc : k = 6 ∨ k = 9 ∨ k = 10 ∨ ((k == 6) = false ∧ (k == 9) = false ∧ (k == 10) = false) := by simp only [beq_eq_false_iff_ne]; omega
  rcases hc with rfl | rfl | rfl | ⟨h1, h2, h3⟩
  · go_enter Tryd.func12, Tryd.ntmps12
    go_wp2_with fail
    go_ret
    exact ⟨lret_bool (by rw [HR.out]; rfl), (Below.refl _ _).alloc (Nat.le_refl _) _⟩
  · go_enter Tryd.func12, Tryd.ntmps12
    go_wp2_with fail
    go_ret
    exact ⟨lret_bool (by rw [HR.out]; rfl), (Below.refl _ _).alloc (Nat.le_refl _) _⟩
  · go_enter Tryd.func12, Tryd.ntmps12
    go_wp2_with fail
    go_ret
    exact ⟨lret_bool (by rw [HR.out]; rfl), (Below.refl _ _).alloc (Nat.le_refl _) _⟩
  · have HN : Hid (needs a = false) := Lib.hid (by rw [HR.out, decide_eq_false_iff_not]; simp only [beq_eq_false_iff_ne] at h1 h2 h3; omega)
    go_enter Tryd.func12, Tryd.ntmps12
    go_wp2_with fail
    go_ret
    exact ⟨lret_bool HN.out.symm, (Below.refl _ _).alloc (Nat.le_refl _) _⟩
theorem not_br {a : Acn} (h : branch a = true) : Ac.not a = { a with sense := !a.sense } := by unfold Ac.not; rw [if_pos h]
theorem not_nb {a : Acn} (h : branch a = false) : Ac.not a = a := by unfold Ac.not; rw [if_neg (by rw [h]; decide)]
set_option maxHeartbeats 1600000 in
set_option maxRecDepth 100000 in
theorem not_any (a : Acn) (w : World) : Calls Tryd.prog 13 #[.agg a.cs] w fun e w' => e = .returned (.agg (Ac.not a).cs) ∧ Below w.heap.size w w' := by
  obtain ⟨wB, hwB⟩ : ∃ wB : World, wB = (w.alloc (.cells a.cs 25)).alloc (.cells Acn.zero.cs 25) := ⟨_, rfl⟩
  have hsz : (w.alloc (.cells a.cs 25)).heap.size = w.heap.size + 1 := by simp
  have HBB : Hid (Below w.heap.size w wB) := Lib.hid (by rw [hwB]; exact ((Below.refl _ _).alloc (Nat.le_refl _) _).alloc (by rw [hsz]; omega) _)
  have HKB : Hid (Bk wB w.heap.size 25 a.cs) := Lib.hid (by
    rw [hwB]
    have h1 : Bk (w.alloc (.cells a.cs 25)) w.heap.size 25 a.cs := heap_alloc_new _ _
    exact h1.below ((Below.refl _ _).alloc (Nat.le_refl _) _) (by rw [hsz]; omega))
  have HKR : Hid (Bk wB (w.heap.size + 1) 25 Acn.zero.cs) := Lib.hid (by rw [hwB, ← hsz]; exact heap_alloc_new _ _)
  have hwB' : (w.alloc (.cells a.cs 25)).alloc (.cells #[.int .i64 0, .int .i64 0, .int .i64 0, .int .i64 0, .int .i64 0, .int .i64 0, .int .i64 0, .int .i64 0, .int .i64 0, .int .i64 0, .int .i64 0, .bool false] 25) = wB := hwB.symm
  have HWB := Lib.hid hwB'
  have CB := Lib.hid (branch_any a wB)
  clear hwB hwB' hsz
  cases hb : branch a
  · have HN := Lib.hid (not_nb hb)
    rw [hb] at CB
    clear hb
    go_enter Tryd.func13, Tryd.ntmps13
    go_upto_region 1 with fail
    rw [HWB.out]
    clear HWB
    go_wp2_with (first
      | ((with_reducible show wpList _ _ _ (Oper.mk (some 3) (Op.load 25 _) _ _ _ _ :: _) _ _); refine wpList_load_bk rfl 25 _ rfl w.heap.size 25 a.cs rfl _ HKB.out Tryd.underlying25 rfl size25 ?_)
      | (go_at_call 9; refine CB.out.mono ?_; rintro e w1 ⟨rfl, hb1⟩; have HB1 := Lib.hid hb1; have HK1 := Lib.hid (HKB.out.below hb1 HKB.out.lt); have HR1 := Lib.hid (HKR.out.below hb1 HKR.out.lt); clear hb1)
      | ((with_reducible show wpList _ _ _ (Oper.mk (some 9) (Op.load 25 _) _ _ _ _ :: _) _ _); refine wpList_load_bk rfl 25 _ rfl w.heap.size 25 a.cs rfl _ HK1.out Tryd.underlying25 rfl size25 ?_)
      | ((with_reducible show wpList _ _ _ (Oper.mk _ (Op.store 25 _ _) _ _ _ _ :: _) _ _); refine wpList_store_bk rfl 25 _ _ rfl (w.heap.size + 1) 25 _ a.cs rfl rfl HR1.out size25 rfl (cs_one _) ?_; intro w3 hk3 hg3; have HK3 := Lib.hid hk3; have HG3 := Lib.hid hg3; clear hk3 hg3))
    exact bodyPost_ret (results_cell_row Tryd.results13 _ w3 (w.heap.size + 1) 25 a.cs (0, 0) _ rfl HK3.out Tryd.underlying25 rfl size25) rfl ⟨by rw [HN.out], (HBB.out.trans (HB1.out.mono HBB.out.size)).trans (below_of_grown HG3.out (by omega) (Nat.le_trans HBB.out.size HB1.out.size))⟩
  · have HN := Lib.hid (not_br hb)
    rw [hb] at CB
    clear hb
    go_enter Tryd.func13, Tryd.ntmps13
    go_upto_region 1 with fail
    rw [HWB.out]
    clear HWB
    go_upto_region 3 with (first
      | ((with_reducible show wpList _ _ _ (Oper.mk (some 3) (Op.load 25 _) _ _ _ _ :: _) _ _); refine wpList_load_bk rfl 25 _ rfl w.heap.size 25 a.cs rfl _ HKB.out Tryd.underlying25 rfl size25 ?_)
      | (go_at_call 9; refine CB.out.mono ?_; rintro e w1 ⟨rfl, hb1⟩; have HB1 := Lib.hid hb1; have HK1 := Lib.hid (HKB.out.below hb1 HKB.out.lt); have HR1 := Lib.hid (HKR.out.below hb1 HKR.out.lt); have c11 : w1.cell? ⟨w.heap.size, 11, none⟩ = some (.bool a.sense) := HK1.out.cell 11; have f11 := HK1.out.frozen 11; clear hb1))
    have HK2 : Hid (Bk (w1.setCell ⟨w.heap.size, 11, none⟩ (.bool !a.sense)) w.heap.size 25 ({ a with sense := !a.sense } : Acn).cs) := Lib.hid (HK1.out.set_ 11 _)
    have HR2 : Hid (Bk (w1.setCell ⟨w.heap.size, 11, none⟩ (.bool !a.sense)) (w.heap.size + 1) 25 Acn.zero.cs) := Lib.hid (HR1.out.far (by simp) _)
    have HG2 : Hid (w1.grownBy (w1.setCell ⟨w.heap.size, 11, none⟩ (.bool !a.sense)) (some w.heap.size)) := Lib.hid (grownBy_setC w1 ⟨w.heap.size, 11, none⟩ _)
    generalize w1.setCell ⟨w.heap.size, 11, none⟩ (.bool !a.sense) = w2 at HK2 HR2 HG2 ⊢
    go_wp2_with (first
      | ((with_reducible show wpList _ _ _ (Oper.mk (some 9) (Op.load 25 _) _ _ _ _ :: _) _ _); refine wpList_load_bk rfl 25 _ rfl w.heap.size 25 _ rfl _ HK2.out Tryd.underlying25 rfl size25 ?_)
      | ((with_reducible show wpList _ _ _ (Oper.mk _ (Op.store 25 _ _) _ _ _ _ :: _) _ _); refine wpList_store_bk rfl 25 _ _ rfl (w.heap.size + 1) 25 _ ({ a with sense := !a.sense } : Acn).cs rfl rfl HR2.out size25 rfl (cs_one _) ?_; intro w3 hk3 hg3; have HK3 := Lib.hid hk3; have HG3 := Lib.hid hg3; clear hk3 hg3))
    exact bodyPost_ret (results_cell_row Tryd.results13 _ w3 (w.heap.size + 1) 25 _ (0, 0) _ rfl HK3.out Tryd.underlying25 rfl size25) rfl ⟨by rw [HN.out], ((HBB.out.trans (HB1.out.mono HBB.out.size)).trans (below_of_grown HG2.out (Nat.le_refl _) (Nat.le_trans HBB.out.size HB1.out.size))).trans (below_of_grown HG3.out (by omega) (Nat.le_trans (Nat.le_trans HBB.out.size HB1.out.size) HG2.out.size))⟩
set_option maxHeartbeats 1600000 in
set_option maxRecDepth 100000 in
theorem rnot_any (a : Acn) (w : World) : Calls Tryd.prog 14 #[.agg a.cs] w fun e w' => e = .returned (.agg (Ac.not a).cs) ∧ Below w.heap.size w w' := by
  obtain ⟨wB, hwB⟩ : ∃ wB : World, wB = (w.alloc (.cells a.cs 25)).alloc (.cells Acn.zero.cs 25) := ⟨_, rfl⟩
  have hsz : (w.alloc (.cells a.cs 25)).heap.size = w.heap.size + 1 := by simp
  have HBB : Hid (Below w.heap.size w wB) := Lib.hid (by rw [hwB]; exact ((Below.refl _ _).alloc (Nat.le_refl _) _).alloc (by rw [hsz]; omega) _)
  have HKB : Hid (Bk wB w.heap.size 25 a.cs) := Lib.hid (by
    rw [hwB]
    have h1 : Bk (w.alloc (.cells a.cs 25)) w.heap.size 25 a.cs := heap_alloc_new _ _
    exact h1.below ((Below.refl _ _).alloc (Nat.le_refl _) _) (by rw [hsz]; omega))
  have HKR : Hid (Bk wB (w.heap.size + 1) 25 Acn.zero.cs) := Lib.hid (by rw [hwB, ← hsz]; exact heap_alloc_new _ _)
  have hwB' : (w.alloc (.cells a.cs 25)).alloc (.cells #[.int .i64 0, .int .i64 0, .int .i64 0, .int .i64 0, .int .i64 0, .int .i64 0, .int .i64 0, .int .i64 0, .int .i64 0, .int .i64 0, .int .i64 0, .bool false] 25) = wB := hwB.symm
  have HWB := Lib.hid hwB'
  have CB := Lib.hid (rbranch_any a wB)
  clear hwB hwB' hsz
  cases hb : branch a
  · have HN := Lib.hid (not_nb hb)
    rw [hb] at CB
    clear hb
    go_enter Tryd.func14, Tryd.ntmps14
    go_upto_region 1 with fail
    rw [HWB.out]
    clear HWB
    go_wp2_with (first
      | ((with_reducible show wpList _ _ _ (Oper.mk (some 3) (Op.load 25 _) _ _ _ _ :: _) _ _); refine wpList_load_bk rfl 25 _ rfl w.heap.size 25 a.cs rfl _ HKB.out Tryd.underlying25 rfl size25 ?_)
      | (go_at_call 10; refine CB.out.mono ?_; rintro e w1 ⟨rfl, hb1⟩; have HB1 := Lib.hid hb1; have HK1 := Lib.hid (HKB.out.below hb1 HKB.out.lt); have HR1 := Lib.hid (HKR.out.below hb1 HKR.out.lt); clear hb1)
      | ((with_reducible show wpList _ _ _ (Oper.mk (some 9) (Op.load 25 _) _ _ _ _ :: _) _ _); refine wpList_load_bk rfl 25 _ rfl w.heap.size 25 a.cs rfl _ HK1.out Tryd.underlying25 rfl size25 ?_)
      | ((with_reducible show wpList _ _ _ (Oper.mk _ (Op.store 25 _ _) _ _ _ _ :: _) _ _); refine wpList_store_bk rfl 25 _ _ rfl (w.heap.size + 1) 25 _ a.cs rfl rfl HR1.out size25 rfl (cs_one _) ?_; intro w3 hk3 hg3; have HK3 := Lib.hid hk3; have HG3 := Lib.hid hg3; clear hk3 hg3))
    exact bodyPost_ret (results_cell_row Tryd.results14 _ w3 (w.heap.size + 1) 25 a.cs (0, 0) _ rfl HK3.out Tryd.underlying25 rfl size25) rfl ⟨by rw [HN.out], (HBB.out.trans (HB1.out.mono HBB.out.size)).trans (below_of_grown HG3.out (by omega) (Nat.le_trans HBB.out.size HB1.out.size))⟩
  · have HN := Lib.hid (not_br hb)
    rw [hb] at CB
    clear hb
    go_enter Tryd.func14, Tryd.ntmps14
    go_upto_region 1 with fail
    rw [HWB.out]
    clear HWB
    go_upto_region 3 with (first
      | ((with_reducible show wpList _ _ _ (Oper.mk (some 3) (Op.load 25 _) _ _ _ _ :: _) _ _); refine wpList_load_bk rfl 25 _ rfl w.heap.size 25 a.cs rfl _ HKB.out Tryd.underlying25 rfl size25 ?_)
      | (go_at_call 10; refine CB.out.mono ?_; rintro e w1 ⟨rfl, hb1⟩; have HB1 := Lib.hid hb1; have HK1 := Lib.hid (HKB.out.below hb1 HKB.out.lt); have HR1 := Lib.hid (HKR.out.below hb1 HKR.out.lt); have c11 : w1.cell? ⟨w.heap.size, 11, none⟩ = some (.bool a.sense) := HK1.out.cell 11; have f11 := HK1.out.frozen 11; clear hb1))
    have HK2 : Hid (Bk (w1.setCell ⟨w.heap.size, 11, none⟩ (.bool !a.sense)) w.heap.size 25 ({ a with sense := !a.sense } : Acn).cs) := Lib.hid (HK1.out.set_ 11 _)
    have HR2 : Hid (Bk (w1.setCell ⟨w.heap.size, 11, none⟩ (.bool !a.sense)) (w.heap.size + 1) 25 Acn.zero.cs) := Lib.hid (HR1.out.far (by simp) _)
    have HG2 : Hid (w1.grownBy (w1.setCell ⟨w.heap.size, 11, none⟩ (.bool !a.sense)) (some w.heap.size)) := Lib.hid (grownBy_setC w1 ⟨w.heap.size, 11, none⟩ _)
    generalize w1.setCell ⟨w.heap.size, 11, none⟩ (.bool !a.sense) = w2 at HK2 HR2 HG2 ⊢
    go_wp2_with (first
      | ((with_reducible show wpList _ _ _ (Oper.mk (some 9) (Op.load 25 _) _ _ _ _ :: _) _ _); refine wpList_load_bk rfl 25 _ rfl w.heap.size 25 _ rfl _ HK2.out Tryd.underlying25 rfl size25 ?_)
      | ((with_reducible show wpList _ _ _ (Oper.mk _ (Op.store 25 _ _) _ _ _ _ :: _) _ _); refine wpList_store_bk rfl 25 _ _ rfl (w.heap.size + 1) 25 _ ({ a with sense := !a.sense } : Acn).cs rfl rfl HR2.out size25 rfl (cs_one _) ?_; intro w3 hk3 hg3; have HK3 := Lib.hid hk3; have HG3 := Lib.hid hg3; clear hk3 hg3))
    exact bodyPost_ret (results_cell_row Tryd.results14 _ w3 (w.heap.size + 1) 25 _ (0, 0) _ rfl HK3.out Tryd.underlying25 rfl size25) rfl ⟨by rw [HN.out], ((HBB.out.trans (HB1.out.mono HBB.out.size)).trans (below_of_grown HG2.out (Nat.le_refl _) (Nat.le_trans HBB.out.size HB1.out.size))).trans (below_of_grown HG3.out (by omega) (Nat.le_trans (Nat.le_trans HBB.out.size HB1.out.size) HG2.out.size))⟩
end Go.Proofs.YtkieiclionkllaaDoor
