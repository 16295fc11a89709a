/-
  DERIVED. The walk of the law's lives.
-/
import Derived.Test.YtnkimfbdcghgpaaDoorYd
namespace Go.Proofs.YtnkimfbdcghgpaaDoor
open Go.RowKit Go.Sort

set_option maxHeartbeats 3200000 in
set_option maxRecDepth 100000 in
theorem lives_any (w : World) (hG : Gl w) (h8 : 8 ≤ w.heap.size) : Calls Tryd.prog 5 #[] w fun e w' => e = .returned (.bool true) ∧ Below w.heap.size w w' := by
  obtain ⟨ie, hie, hze, hne, -⟩ := info_parts zinfo34
  have HIE := Lib.hid (And.intro hie (And.intro hze hne))
  clear hie hze hne
  have HG := Lib.hid hG
  have HR1 : Hid (((w.alloc (.cells ed0.cs 34)).alloc (.cells (g0 (some ⟨w.heap.size, 0, none⟩)).cs 26)).rangeAt w.heap.size 0 ed0.cs.toList) := Lib.hid (((Gr.new (A := w.alloc (.cells ed0.cs 34)) (.cells (g0 (some ⟨w.heap.size, 0, none⟩)).cs 26)).bk (heap_alloc_new _ _) id).range)
  have HK1 : Hid (Bk ((w.alloc (.cells ed0.cs 34)).alloc (.cells (g0 (some ⟨w.heap.size, 0, none⟩)).cs 26)) (w.heap.size + 1) 26 (g0 (some ⟨w.heap.size, 0, none⟩)).cs) := Lib.hid (by
    have := heap_alloc_new (w.alloc (.cells ed0.cs 34)) (.cells (g0 (some ⟨w.heap.size, 0, none⟩)).cs 26)
    rwa [World.size_alloc] at this)
  have HB1 : Hid (Below w.heap.size w ((w.alloc (.cells ed0.cs 34)).alloc (.cells (g0 (some ⟨w.heap.size, 0, none⟩)).cs 26))) := Lib.hid (((Below.refl _ _).alloc (Nat.le_refl _) _).alloc (by simp) _)
  clear hG
  go_enter Tryd.func5, Tryd.ntmps5
  go_wp2_with (first
    | ((with_reducible show wpList _ _ _ (Oper.mk _ (Op.buildSlice 22 1 _) _ _ _ _ :: _) _ _); refine wpList_one rfl 22 34 (.tmp 2) rfl ed0.cs rfl Tryd.underlying22 ie _ 14 HIE.out.1 HIE.out.2.1 HIE.out.2.2 (by decide) (by decide) rfl ?_)
    | ((with_reducible show wpList _ _ _ (Oper.mk _ (Op.store 26 _ _) _ _ _ _ :: _) _ _); refine wpList_store_new rfl 26 _ _ rfl _ (g0 (some ⟨w.heap.size, 0, none⟩)).cs rfl rfl size26 rfl (Gh.one _) ?_)
    | ((with_reducible show wpList _ _ _ (Oper.mk _ (Op.load 26 _) _ _ _ _ :: _) _ _); refine wpList_load_bk rfl 26 _ rfl (w.heap.size + 1) 26 (g0 (some ⟨w.heap.size, 0, none⟩)).cs rfl _ HK1.out Tryd.underlying26 rfl size26 ?_)
    | fail)
  refine (right_g0 w.heap.size 0 _ HR1.out (HG.out.below HB1.out h8) (Nat.le_trans h8 HB1.out.size)).mono ?_
  rintro en w2 ⟨rfl, hb⟩
  have HK2 := Lib.hid (HK1.out.below hb HK1.out.lt)
  have HR2 := Lib.hid (range_below HR1.out hb)
  have HB2 : Hid (Below w.heap.size w w2) := Lib.hid (HB1.out.trans (hb.mono HB1.out.size))
  clear hb
  go_wp2_with (first | ((with_reducible show wpList _ _ _ (Oper.mk _ (Op.load 26 _) _ _ _ _ :: _) _ _); refine wpList_load_bk_g 26 _ (by rfl) rfl (w.heap.size + 1) 26 (g0 (some ⟨w.heap.size, 0, none⟩)).cs rfl _ HK2.out Tryd.underlying26 rfl size26 ?_) | fail)
  refine (has_g0 (some ⟨w.heap.size, 0, none⟩) _ (HG.out.below HB2.out h8) (Nat.le_trans h8 HB2.out.size)).mono ?_
  rintro en w3 ⟨rfl, hb⟩
  have HK3 := Lib.hid (HK2.out.below hb HK2.out.lt)
  have HR3 := Lib.hid (range_below HR2.out hb)
  have HB3 : Hid (Below w.heap.size w w3) := Lib.hid (HB2.out.trans (hb.mono HB2.out.size))
  clear hb
  go_wp2_with (first | ((with_reducible show wpList _ _ _ (Oper.mk _ (Op.load 26 _) _ _ _ _ :: _) _ _); refine wpList_load_bk_g 26 _ (by rfl) rfl (w.heap.size + 1) 26 (g0 (some ⟨w.heap.size, 0, none⟩)).cs rfl _ HK3.out Tryd.underlying26 rfl size26 ?_) | fail)
  refine (outs_g0 w.heap.size 0 _ HR3.out).mono ?_
  rintro en w4 ⟨⟨qp, qc, rfl⟩, hb⟩
  have HK4 := Lib.hid (HK3.out.below hb HK3.out.lt)
  have HR4 := Lib.hid (range_below HR3.out hb)
  have HB4 : Hid (Below w.heap.size w w4) := Lib.hid (HB3.out.trans (hb.mono HB3.out.size))
  clear hb
  go_wp2_with (first | ((with_reducible show wpList _ _ _ (Oper.mk _ (Op.load 26 _) _ _ _ _ :: _) _ _); refine wpList_load_bk_g 26 _ (by rfl) rfl (w.heap.size + 1) 26 (g0 (some ⟨w.heap.size, 0, none⟩)).cs rfl _ HK4.out Tryd.underlying26 rfl size26 ?_) | fail)
  refine (text_g0 w.heap.size 0 _ HR4.out (HG.out.below HB4.out h8) (Nat.le_trans h8 HB4.out.size)).mono ?_
  rintro en w5 ⟨rfl, hb⟩
  have HK5 := Lib.hid (HK4.out.below hb HK4.out.lt)
  have HR5 := Lib.hid (range_below HR4.out hb)
  have HB5 : Hid (Below w.heap.size w w5) := Lib.hid (HB4.out.trans (hb.mono HB4.out.size))
  clear hb
  unfold t0
  go_wp2_with fail
  go_ret
  exact ⟨rfl, HB5.out⟩
end Go.Proofs.YtnkimfbdcghgpaaDoor
