/-
  DERIVED. The walks of the document's has and word.
-/
import Derived.Test.YtkieiclionkllaaDoorGb
namespace Go.Proofs.YtkieiclionkllaaDoor
open Go.RowKit Go.Sort
open Ac

def hz : Array Value := hcs (false, false, false, false, false, false, false, false)
set_option maxHeartbeats 3200000 in
set_option maxRecDepth 100000 in
theorem has_any (a : Acn) (w : World) : Calls Tryd.prog 18 #[.agg a.cs] w fun e w' => e = .returned (.agg (hcs (hasOf a.kind a.op))) ∧ Below w.heap.size w w' := by
  obtain ⟨wB, hwB⟩ : ∃ wB : World, wB = (w.alloc (.cells a.cs 25)).alloc (.cells hz 39) := ⟨_, rfl⟩
  have hsz : (w.alloc (.cells a.cs 25)).heap.size = w.heap.size + 1 := by simp
  have HBB : Hid (Below w.heap.size w wB) := Lib.hid (by rw [hwB]; exact ((Below.refl _ _).alloc (Nat.le_refl _) _).alloc (by rw [hsz]; omega) _)
  have HKB : Hid (Bk wB w.heap.size 25 a.cs) := Lib.hid (by
    rw [hwB]
    have h1 : Bk (w.alloc (.cells a.cs 25)) w.heap.size 25 a.cs := heap_alloc_new _ _
    exact h1.below ((Below.refl _ _).alloc (Nat.le_refl _) _) (by rw [hsz]; omega))
  have HKR : Hid (Bk wB (w.heap.size + 1) 39 hz) := Lib.hid (by rw [hwB, ← hsz]; exact heap_alloc_new _ _)
  have hwB' : (w.alloc (.cells a.cs 25)).alloc (.cells #[.bool false, .bool false, .bool false, .bool false, .bool false, .bool false, .bool false, .bool false] 39) = wB := hwB.symm
  have HWB := Lib.hid hwB'
  have c0 : wB.cell? ⟨w.heap.size, 0, none⟩ = some (.int .i64 a.kind) := HKB.out.cell 0
  have c6 : wB.cell? ⟨w.heap.size, 6, none⟩ = some (.int .i64 a.op) := HKB.out.cell 6
  clear hwB hwB' hsz
  generalize a.op = op at *
  generalize a.kind = k at *
  have hc : k = 0 ∨ k = 1 ∨ k = 2 ∨ k = 3 ∨ k = 4 ∨ k = 5 ∨ k = 6 ∨ k = 7 ∨ k = 8 ∨ k = 9 ∨ k = 10 ∨ k = 11 ∨ k = 12 ∨ ((k == 1) = false ∧ (k == 2) = false ∧ (k == 3) = false ∧ (k == 4) = false ∧ (k == 5) = false ∧ (k == 6) = false ∧ (k == 7) = false ∧ (k == 8) = false ∧ (k == 9) = false ∧ (k == 10) = false ∧ (k == 11) = false ∧ (k == 12) = false) := by
    simp only [beq_eq_false_iff_ne]; omega
  rcases hc with rfl | rfl | rfl | rfl | rfl | rfl | rfl | rfl | rfl | rfl | rfl | rfl | rfl | ⟨h1, h2, h3, h4, h5, h6, h7, h8, h9, h10, h11, h12⟩
  · have HE : Hid (Ending.returned (.agg (hcs (false, false, false, false, false, false, false, false))) = .returned (.agg (hcs (hasOf 0 op)))) := Lib.hid (by rfl)
    go_enter Tryd.func18, Tryd.ntmps18
    go_upto_region 1 with fail
    rw [HWB.out]
    clear HWB
    go_wp2_with (first
      | ((with_reducible show wpList _ _ _ (Oper.mk _ (Op.store 39 _ _) _ _ _ _ :: _) _ _); refine wpList_store_bk rfl 39 _ _ rfl (w.heap.size + 1) 39 _ (hcs (false, false, false, false, false, false, false, false)) rfl rfl HKR.out size39 rfl (hcs_one _) ?_; intro w3 hk3 hg3; have HK3 := Lib.hid hk3; have HG3 := Lib.hid hg3; clear hk3 hg3))
    exact bodyPost_ret (results_cell_row Tryd.results18 _ w3 (w.heap.size + 1) 39 _ (0, 0) _ rfl HK3.out Tryd.underlying39 rfl size39) rfl ⟨HE.out, HBB.out.trans (below_of_grown HG3.out (by omega) HBB.out.size)⟩
  · have HE : Hid (Ending.returned (.agg (hcs (true, false, false, false, false, false, false, false))) = .returned (.agg (hcs (hasOf 1 op)))) := Lib.hid (by rfl)
    go_enter Tryd.func18, Tryd.ntmps18
    go_upto_region 1 with fail
    rw [HWB.out]
    clear HWB
    go_wp2_with (first
      | ((with_reducible show wpList _ _ _ (Oper.mk _ (Op.store 39 _ _) _ _ _ _ :: _) _ _); refine wpList_store_bk rfl 39 _ _ rfl (w.heap.size + 1) 39 _ (hcs (true, false, false, false, false, false, false, false)) rfl rfl HKR.out size39 rfl (hcs_one _) ?_; intro w3 hk3 hg3; have HK3 := Lib.hid hk3; have HG3 := Lib.hid hg3; clear hk3 hg3))
    exact bodyPost_ret (results_cell_row Tryd.results18 _ w3 (w.heap.size + 1) 39 _ (0, 0) _ rfl HK3.out Tryd.underlying39 rfl size39) rfl ⟨HE.out, HBB.out.trans (below_of_grown HG3.out (by omega) HBB.out.size)⟩
  · have HE : Hid (Ending.returned (.agg (hcs (true, true, false, false, false, false, false, false))) = .returned (.agg (hcs (hasOf 2 op)))) := Lib.hid (by rfl)
    go_enter Tryd.func18, Tryd.ntmps18
    go_upto_region 1 with fail
    rw [HWB.out]
    clear HWB
    go_wp2_with (first
      | ((with_reducible show wpList _ _ _ (Oper.mk _ (Op.store 39 _ _) _ _ _ _ :: _) _ _); refine wpList_store_bk rfl 39 _ _ rfl (w.heap.size + 1) 39 _ (hcs (true, true, false, false, false, false, false, false)) rfl rfl HKR.out size39 rfl (hcs_one _) ?_; intro w3 hk3 hg3; have HK3 := Lib.hid hk3; have HG3 := Lib.hid hg3; clear hk3 hg3))
    exact bodyPost_ret (results_cell_row Tryd.results18 _ w3 (w.heap.size + 1) 39 _ (0, 0) _ rfl HK3.out Tryd.underlying39 rfl size39) rfl ⟨HE.out, HBB.out.trans (below_of_grown HG3.out (by omega) HBB.out.size)⟩
  · have HE : Hid (Ending.returned (.agg (hcs (true, true, true, false, false, false, false, false))) = .returned (.agg (hcs (hasOf 3 op)))) := Lib.hid (by rfl)
    go_enter Tryd.func18, Tryd.ntmps18
    go_upto_region 1 with fail
    rw [HWB.out]
    clear HWB
    go_wp2_with (first
      | ((with_reducible show wpList _ _ _ (Oper.mk _ (Op.store 39 _ _) _ _ _ _ :: _) _ _); refine wpList_store_bk rfl 39 _ _ rfl (w.heap.size + 1) 39 _ (hcs (true, true, true, false, false, false, false, false)) rfl rfl HKR.out size39 rfl (hcs_one _) ?_; intro w3 hk3 hg3; have HK3 := Lib.hid hk3; have HG3 := Lib.hid hg3; clear hk3 hg3))
    exact bodyPost_ret (results_cell_row Tryd.results18 _ w3 (w.heap.size + 1) 39 _ (0, 0) _ rfl HK3.out Tryd.underlying39 rfl size39) rfl ⟨HE.out, HBB.out.trans (below_of_grown HG3.out (by omega) HBB.out.size)⟩
  · have HE : Hid (Ending.returned (.agg (hcs (true, false, true, false, false, false, false, false))) = .returned (.agg (hcs (hasOf 4 op)))) := Lib.hid (by rfl)
    go_enter Tryd.func18, Tryd.ntmps18
    go_upto_region 1 with fail
    rw [HWB.out]
    clear HWB
    go_wp2_with (first
      | ((with_reducible show wpList _ _ _ (Oper.mk _ (Op.store 39 _ _) _ _ _ _ :: _) _ _); refine wpList_store_bk rfl 39 _ _ rfl (w.heap.size + 1) 39 _ (hcs (true, false, true, false, false, false, false, false)) rfl rfl HKR.out size39 rfl (hcs_one _) ?_; intro w3 hk3 hg3; have HK3 := Lib.hid hk3; have HG3 := Lib.hid hg3; clear hk3 hg3))
    exact bodyPost_ret (results_cell_row Tryd.results18 _ w3 (w.heap.size + 1) 39 _ (0, 0) _ rfl HK3.out Tryd.underlying39 rfl size39) rfl ⟨HE.out, HBB.out.trans (below_of_grown HG3.out (by omega) HBB.out.size)⟩
  · have HE : Hid (Ending.returned (.agg (hcs (true, true, true, false, false, false, false, false))) = .returned (.agg (hcs (hasOf 5 op)))) := Lib.hid (by rfl)
    go_enter Tryd.func18, Tryd.ntmps18
    go_upto_region 1 with fail
    rw [HWB.out]
    clear HWB
    go_wp2_with (first
      | ((with_reducible show wpList _ _ _ (Oper.mk _ (Op.store 39 _ _) _ _ _ _ :: _) _ _); refine wpList_store_bk rfl 39 _ _ rfl (w.heap.size + 1) 39 _ (hcs (true, true, true, false, false, false, false, false)) rfl rfl HKR.out size39 rfl (hcs_one _) ?_; intro w3 hk3 hg3; have HK3 := Lib.hid hk3; have HG3 := Lib.hid hg3; clear hk3 hg3))
    exact bodyPost_ret (results_cell_row Tryd.results18 _ w3 (w.heap.size + 1) 39 _ (0, 0) _ rfl HK3.out Tryd.underlying39 rfl size39) rfl ⟨HE.out, HBB.out.trans (below_of_grown HG3.out (by omega) HBB.out.size)⟩
  · have HE : Hid (Ending.returned (.agg (hcs (true, false, false, true, false, false, false, false))) = .returned (.agg (hcs (hasOf 6 op)))) := Lib.hid (by rfl)
    go_enter Tryd.func18, Tryd.ntmps18
    go_upto_region 1 with fail
    rw [HWB.out]
    clear HWB
    go_wp2_with (first
      | ((with_reducible show wpList _ _ _ (Oper.mk _ (Op.store 39 _ _) _ _ _ _ :: _) _ _); refine wpList_store_bk rfl 39 _ _ rfl (w.heap.size + 1) 39 _ (hcs (true, false, false, true, false, false, false, false)) rfl rfl HKR.out size39 rfl (hcs_one _) ?_; intro w3 hk3 hg3; have HK3 := Lib.hid hk3; have HG3 := Lib.hid hg3; clear hk3 hg3))
    exact bodyPost_ret (results_cell_row Tryd.results18 _ w3 (w.heap.size + 1) 39 _ (0, 0) _ rfl HK3.out Tryd.underlying39 rfl size39) rfl ⟨HE.out, HBB.out.trans (below_of_grown HG3.out (by omega) HBB.out.size)⟩
  · have HE : Hid (Ending.returned (.agg (hcs (true, false, false, false, false, false, false, false))) = .returned (.agg (hcs (hasOf 7 op)))) := Lib.hid (by rfl)
    go_enter Tryd.func18, Tryd.ntmps18
    go_upto_region 1 with fail
    rw [HWB.out]
    clear HWB
    go_wp2_with (first
      | ((with_reducible show wpList _ _ _ (Oper.mk _ (Op.store 39 _ _) _ _ _ _ :: _) _ _); refine wpList_store_bk rfl 39 _ _ rfl (w.heap.size + 1) 39 _ (hcs (true, false, false, false, false, false, false, false)) rfl rfl HKR.out size39 rfl (hcs_one _) ?_; intro w3 hk3 hg3; have HK3 := Lib.hid hk3; have HG3 := Lib.hid hg3; clear hk3 hg3))
    exact bodyPost_ret (results_cell_row Tryd.results18 _ w3 (w.heap.size + 1) 39 _ (0, 0) _ rfl HK3.out Tryd.underlying39 rfl size39) rfl ⟨HE.out, HBB.out.trans (below_of_grown HG3.out (by omega) HBB.out.size)⟩
  · have HE : Hid (Ending.returned (.agg (hcs (true, true, false, false, false, false, false, true))) = .returned (.agg (hcs (hasOf 8 op)))) := Lib.hid (by rfl)
    go_enter Tryd.func18, Tryd.ntmps18
    go_upto_region 1 with fail
    rw [HWB.out]
    clear HWB
    go_wp2_with (first
      | ((with_reducible show wpList _ _ _ (Oper.mk _ (Op.store 39 _ _) _ _ _ _ :: _) _ _); refine wpList_store_bk rfl 39 _ _ rfl (w.heap.size + 1) 39 _ (hcs (true, true, false, false, false, false, false, true)) rfl rfl HKR.out size39 rfl (hcs_one _) ?_; intro w3 hk3 hg3; have HK3 := Lib.hid hk3; have HG3 := Lib.hid hg3; clear hk3 hg3))
    exact bodyPost_ret (results_cell_row Tryd.results18 _ w3 (w.heap.size + 1) 39 _ (0, 0) _ rfl HK3.out Tryd.underlying39 rfl size39) rfl ⟨HE.out, HBB.out.trans (below_of_grown HG3.out (by omega) HBB.out.size)⟩
  · have HE : Hid (Ending.returned (.agg (hcs (false, false, false, false, false, false, false, true))) = .returned (.agg (hcs (hasOf 9 op)))) := Lib.hid (by rfl)
    go_enter Tryd.func18, Tryd.ntmps18
    go_upto_region 1 with fail
    rw [HWB.out]
    clear HWB
    go_wp2_with (first
      | ((with_reducible show wpList _ _ _ (Oper.mk _ (Op.store 39 _ _) _ _ _ _ :: _) _ _); refine wpList_store_bk rfl 39 _ _ rfl (w.heap.size + 1) 39 _ (hcs (false, false, false, false, false, false, false, true)) rfl rfl HKR.out size39 rfl (hcs_one _) ?_; intro w3 hk3 hg3; have HK3 := Lib.hid hk3; have HG3 := Lib.hid hg3; clear hk3 hg3))
    exact bodyPost_ret (results_cell_row Tryd.results18 _ w3 (w.heap.size + 1) 39 _ (0, 0) _ rfl HK3.out Tryd.underlying39 rfl size39) rfl ⟨HE.out, HBB.out.trans (below_of_grown HG3.out (by omega) HBB.out.size)⟩
  · have HE : Hid (Ending.returned (.agg (hcs (true, false, false, false, false, false, false, false))) = .returned (.agg (hcs (hasOf 10 op)))) := Lib.hid (by rfl)
    go_enter Tryd.func18, Tryd.ntmps18
    go_upto_region 1 with fail
    rw [HWB.out]
    clear HWB
    go_wp2_with (first
      | ((with_reducible show wpList _ _ _ (Oper.mk _ (Op.store 39 _ _) _ _ _ _ :: _) _ _); refine wpList_store_bk rfl 39 _ _ rfl (w.heap.size + 1) 39 _ (hcs (true, false, false, false, false, false, false, false)) rfl rfl HKR.out size39 rfl (hcs_one _) ?_; intro w3 hk3 hg3; have HK3 := Lib.hid hk3; have HG3 := Lib.hid hg3; clear hk3 hg3))
    exact bodyPost_ret (results_cell_row Tryd.results18 _ w3 (w.heap.size + 1) 39 _ (0, 0) _ rfl HK3.out Tryd.underlying39 rfl size39) rfl ⟨HE.out, HBB.out.trans (below_of_grown HG3.out (by omega) HBB.out.size)⟩
  · have HE : Hid (Ending.returned (.agg (hcs (true, false, false, false, true, true, decide (0 < op), false))) = .returned (.agg (hcs (hasOf 11 op)))) := Lib.hid (by rfl)
    go_enter Tryd.func18, Tryd.ntmps18
    go_upto_region 1 with fail
    rw [HWB.out]
    clear HWB
    go_wp2_with (first
      | ((with_reducible show wpList _ _ _ (Oper.mk _ (Op.store 39 _ _) _ _ _ _ :: _) _ _); refine wpList_store_bk rfl 39 _ _ rfl (w.heap.size + 1) 39 _ (hcs (true, false, false, false, true, true, decide (0 < op), false)) rfl rfl HKR.out size39 rfl (hcs_one _) ?_; intro w3 hk3 hg3; have HK3 := Lib.hid hk3; have HG3 := Lib.hid hg3; clear hk3 hg3))
    exact bodyPost_ret (results_cell_row Tryd.results18 _ w3 (w.heap.size + 1) 39 _ (0, 0) _ rfl HK3.out Tryd.underlying39 rfl size39) rfl ⟨HE.out, HBB.out.trans (below_of_grown HG3.out (by omega) HBB.out.size)⟩
  · have HE : Hid (Ending.returned (.agg (hcs (false, false, false, false, true, true, true, true))) = .returned (.agg (hcs (hasOf 12 op)))) := Lib.hid (by rfl)
    go_enter Tryd.func18, Tryd.ntmps18
    go_upto_region 1 with fail
    rw [HWB.out]
    clear HWB
    go_wp2_with (first
      | ((with_reducible show wpList _ _ _ (Oper.mk _ (Op.store 39 _ _) _ _ _ _ :: _) _ _); refine wpList_store_bk rfl 39 _ _ rfl (w.heap.size + 1) 39 _ (hcs (false, false, false, false, true, true, true, true)) rfl rfl HKR.out size39 rfl (hcs_one _) ?_; intro w3 hk3 hg3; have HK3 := Lib.hid hk3; have HG3 := Lib.hid hg3; clear hk3 hg3))
    exact bodyPost_ret (results_cell_row Tryd.results18 _ w3 (w.heap.size + 1) 39 _ (0, 0) _ rfl HK3.out Tryd.underlying39 rfl size39) rfl ⟨HE.out, HBB.out.trans (below_of_grown HG3.out (by omega) HBB.out.size)⟩
  · have HE : Hid (Ending.returned (.agg hz) = .returned (.agg (hcs (hasOf k op)))) := Lib.hid (by
      simp only [beq_eq_false_iff_ne] at h1 h2 h3 h4 h5 h6 h7 h8 h9 h10 h11 h12
      unfold hasOf
      simp [h1, h2, h3, h4, h5, h6, h7, h8, h9, h10, h11, h12]
      rfl)
    go_enter Tryd.func18, Tryd.ntmps18
    go_upto_region 1 with fail
    rw [HWB.out]
    clear HWB
    go_wp2_with (first
      | ((with_reducible show wpList _ _ _ (Oper.mk _ (Op.store 39 _ _) _ _ _ _ :: _) _ _); refine wpList_store_bk rfl 39 _ _ rfl (w.heap.size + 1) 39 _ (hcs (false, false, false, false, false, false, false, false)) rfl rfl HKR.out size39 rfl (hcs_one _) ?_; intro w3 hk3 hg3; have HK3 := Lib.hid hk3; have HG3 := Lib.hid hg3; clear hk3 hg3))
    exact bodyPost_ret (results_cell_row Tryd.results18 _ w3 (w.heap.size + 1) 39 _ (0, 0) _ rfl HK3.out Tryd.underlying39 rfl size39) rfl ⟨HE.out, HBB.out.trans (below_of_grown HG3.out (by omega) HBB.out.size)⟩
set_option maxHeartbeats 1600000 in
set_option maxRecDepth 100000 in
theorem word_any (k : Nat) (hk : k < 13) (w : World) : Calls Tryd.prog 22 #[.int .i64 (k : Int)] w fun e w' => e = .returned (.string (bt (wordOf k))) ∧ Below w.heap.size w w' := by
  have hc : k = 0 ∨ k = 1 ∨ k = 2 ∨ k = 3 ∨ k = 4 ∨ k = 5 ∨ k = 6 ∨ k = 7 ∨ k = 8 ∨ k = 9 ∨ k = 10 ∨ k = 11 ∨ k = 12 := by omega
  clear hk
  rcases hc with rfl | rfl | rfl | rfl | rfl | rfl | rfl | rfl | rfl | rfl | rfl | rfl | rfl
  all_goals
    go_enter Tryd.func22, Tryd.ntmps22
    go_wp2_with fail
    go_ret
    exact ⟨ret_text rfl, (Below.refl _ _).alloc (Nat.le_refl _) _⟩
end Go.Proofs.YtkieiclionkllaaDoor
