/-
  DERIVED. The walks of a part's text (numbers, sums) and of Text.
-/
import Derived.Test.YtnkimfbdcghgpaaDoorCa
namespace Go.Proofs.YtnkimfbdcghgpaaDoor
open Go.RowKit Go.Sort
open Ac

theorem sign_bt (p : Nat) (n : Int) (h : ¬ n < 0) : bt (32 :: numT p n) = (⟨#[32]⟩ ++ bt [sgOf p]) ++ bt (Lib.itoa n) := by
  have e : numT p n = sgOf p :: Lib.itoa n := by unfold numT; rw [if_neg h]
  rw [e, show (⟨#[32]⟩ : ByteArray) = bt [32] from rfl, bt_app, bt_app]; rfl
theorem txt_num (p : Nat) (hp : 1 ≤ p ∧ p ≤ 8) (a : Acn) : txt p a = 32 :: numT p (numOf p a) := by
  have h : p = 1 ∨ p = 2 ∨ p = 3 ∨ p = 4 ∨ p = 5 ∨ p = 6 ∨ p = 7 ∨ p = 8 := by omega
  rcases h with rfl | rfl | rfl | rfl | rfl | rfl | rfl | rfl <;> rfl
theorem part_num (p : Nat) (hp : 1 ≤ p ∧ p ≤ 8) (a : Acn) (h : partOk p a) : isInt (numOf p a) := by
  have h' : p = 1 ∨ p = 2 ∨ p = 3 ∨ p = 4 ∨ p = 5 ∨ p = 6 ∨ p = 7 ∨ p = 8 := by omega
  rcases h' with rfl | rfl | rfl | rfl | rfl | rfl | rfl | rfl <;> exact h
set_option maxHeartbeats 1600000 in
set_option maxRecDepth 100000 in
theorem text_num (p : Nat) (hp : 1 ≤ p ∧ p ≤ 8) (a : Acn) (h : partOk p a) (w : World) (hG : Gl w) : Calls Tryd.prog 35 #[.int .u8 (p : Int), .agg a.cs] w fun e w' => TxPost w p a e w' := by
  have hi := part_num p hp a h
  obtain ⟨wA, hwA⟩ : ∃ wA : World, wA = w.alloc (.cells a.cs 32) := ⟨_, rfl⟩
  have HBA : Hid (Below w.heap.size w wA) := Lib.hid (by rw [hwA]; exact (Below.refl _ _).alloc (Nat.le_refl _) _)
  have HK : Hid (Bk wA w.heap.size 32 a.cs) := Lib.hid (by rw [hwA]; exact heap_alloc_new _ _)
  have HG : Hid (Gl wA) := Lib.hid (hG.below HBA.out (by have := hG.big; omega))
  have cn : wA.cell? ⟨w.heap.size, atOf p, none⟩ = some (.int .i64 (numOf p a)) := (HK.out.cell _).trans (num_cell a p hp)
  have cs := HG.out.sign p hp.1 (by omega)
  have CN : Hid (Calls Tryd.prog 41 #[.int .u8 (p : Int), .pointer (some ⟨w.heap.size, 0, none⟩)] wA fun e w' => e = .returned (.pointer (some ⟨w.heap.size, atOf p, none⟩)) ∧ wA = w') := Lib.hid (number_any p w.heap.size wA hp)
  have HX : Hid (∀ e w', e = .returned (.string (bt (32 :: numT p (numOf p a)))) ∧ Below w.heap.size w w' → TxPost w p a e w') := Lib.hid (fun e w' hh => ⟨by rw [hh.1, txt_num p hp], hh.2⟩)
  have CT : Hid (∀ dd os, Calls Tryd.prog 24 #[.int .i64 (numOf p a)] (grow (redrawn wA dd) os) fun e w'' => e = .returned (.string (bt (Lib.itoa (numOf p a)))) ∧ ∃ p : Regrown, w'' = grow (redrawn wA p.d) p.os) :=
    Lib.hid (fun dd os => Calls.regrown_of (itoa_any _ hi.1 hi.2 _ (HG.out.below (below_regrown wA dd os) (by have := HG.out.big; omega))))
  have hs := itoa_size _ hi.1 hi.2
  have HSN := Lib.hid (sign_bt p (numOf p a))
  have HNN : Hid (numOf p a < 0 → bt (32 :: numT p (numOf p a)) = ⟨#[32, 110, 117, 108, 108]⟩) := Lib.hid (fun hn => by unfold numT; rw [if_pos hn]; rfl)
  have hsg : (bt [sgOf p]).size = 1 := rfl
  clear h hG hi
  generalize numOf p a = n at *
  generalize bt (Lib.itoa n) = tn at *
  generalize bt (32 :: numT p n) = tt at *
  generalize bt [sgOf p] = sg at *
  generalize atOf p = q at *
  have hs1 : sg.size ≤ 1 := by omega
  clear hsg
  have h : p = 1 ∨ p = 2 ∨ p = 3 ∨ p = 4 ∨ p = 5 ∨ p = 6 ∨ p = 7 ∨ p = 8 := by omega
  clear hp
  rcases h with rfl | rfl | rfl | rfl | rfl | rfl | rfl | rfl
  · have cs' : wA.cell? ⟨2, 3, none⟩ = some (.string sg) := cs
    replace CN : Hid (Calls Tryd.prog 41 #[.int .u8 1, .pointer (some ⟨w.heap.size, 0, none⟩)] wA fun e w' => e = .returned (.pointer (some ⟨w.heap.size, q, none⟩)) ∧ wA = w') := CN
    clear cs
    go_enter Tryd.func35, Tryd.ntmps35
    go_upto_region 1 with fail
    rw [← hwA]
    clear hwA
    by_cases hn : n < 0
    · go_wp2_with (go_at_call 41; (with_reducible refine CN.out.mono ?_); rintro e w1 ⟨rfl, rfl⟩)
      go_ret
      exact HX.out _ _ ⟨ret_text (HNN.out hn).symm, HBA.out⟩
    · have HE := Lib.hid (HSN.out hn)
      go_wp2_with (go_at_call 41; (with_reducible refine CN.out.mono ?_); rintro e w1 ⟨rfl, rfl⟩)
      have cF := CT.out
      have cS := cell_regrown cs'
      refine wp_region_quiet_below (by kernel_rfl) (by kernel_rfl) ?_
      repeat (go_big_quiet_step (with_reducible exact cF _ _))
      refine wpQuiet_nil ?_
      intro _ hw'
      obtain ⟨⟨dq, osq⟩, hw''⟩ := hw'
      subst hw''
      have HB6 := Lib.hid (below_regrown wA dq osq)
      generalize grow (redrawn wA dq) osq = w6 at HB6 ⊢
      clear cF cS
      go_wp2_with fail
      go_ret
      exact HX.out _ _ ⟨ret_text HE.out.symm, HBA.out.trans (HB6.out.mono HBA.out.size)⟩
  · have cs' : wA.cell? ⟨2, 6, none⟩ = some (.string sg) := cs
    replace CN : Hid (Calls Tryd.prog 41 #[.int .u8 2, .pointer (some ⟨w.heap.size, 0, none⟩)] wA fun e w' => e = .returned (.pointer (some ⟨w.heap.size, q, none⟩)) ∧ wA = w') := CN
    clear cs
    go_enter Tryd.func35, Tryd.ntmps35
    go_upto_region 1 with fail
    rw [← hwA]
    clear hwA
    by_cases hn : n < 0
    · go_wp2_with (go_at_call 41; (with_reducible refine CN.out.mono ?_); rintro e w1 ⟨rfl, rfl⟩)
      go_ret
      exact HX.out _ _ ⟨ret_text (HNN.out hn).symm, HBA.out⟩
    · have HE := Lib.hid (HSN.out hn)
      go_wp2_with (go_at_call 41; (with_reducible refine CN.out.mono ?_); rintro e w1 ⟨rfl, rfl⟩)
      have cF := CT.out
      have cS := cell_regrown cs'
      refine wp_region_quiet_below (by kernel_rfl) (by kernel_rfl) ?_
      repeat (go_big_quiet_step (with_reducible exact cF _ _))
      refine wpQuiet_nil ?_
      intro _ hw'
      obtain ⟨⟨dq, osq⟩, hw''⟩ := hw'
      subst hw''
      have HB6 := Lib.hid (below_regrown wA dq osq)
      generalize grow (redrawn wA dq) osq = w6 at HB6 ⊢
      clear cF cS
      go_wp2_with fail
      go_ret
      exact HX.out _ _ ⟨ret_text HE.out.symm, HBA.out.trans (HB6.out.mono HBA.out.size)⟩
  · have cs' : wA.cell? ⟨2, 9, none⟩ = some (.string sg) := cs
    replace CN : Hid (Calls Tryd.prog 41 #[.int .u8 3, .pointer (some ⟨w.heap.size, 0, none⟩)] wA fun e w' => e = .returned (.pointer (some ⟨w.heap.size, q, none⟩)) ∧ wA = w') := CN
    clear cs
    go_enter Tryd.func35, Tryd.ntmps35
    go_upto_region 1 with fail
    rw [← hwA]
    clear hwA
    by_cases hn : n < 0
    · go_wp2_with (go_at_call 41; (with_reducible refine CN.out.mono ?_); rintro e w1 ⟨rfl, rfl⟩)
      go_ret
      exact HX.out _ _ ⟨ret_text (HNN.out hn).symm, HBA.out⟩
    · have HE := Lib.hid (HSN.out hn)
      go_wp2_with (go_at_call 41; (with_reducible refine CN.out.mono ?_); rintro e w1 ⟨rfl, rfl⟩)
      have cF := CT.out
      have cS := cell_regrown cs'
      refine wp_region_quiet_below (by kernel_rfl) (by kernel_rfl) ?_
      repeat (go_big_quiet_step (with_reducible exact cF _ _))
      refine wpQuiet_nil ?_
      intro _ hw'
      obtain ⟨⟨dq, osq⟩, hw''⟩ := hw'
      subst hw''
      have HB6 := Lib.hid (below_regrown wA dq osq)
      generalize grow (redrawn wA dq) osq = w6 at HB6 ⊢
      clear cF cS
      go_wp2_with fail
      go_ret
      exact HX.out _ _ ⟨ret_text HE.out.symm, HBA.out.trans (HB6.out.mono HBA.out.size)⟩
  · have cs' : wA.cell? ⟨2, 12, none⟩ = some (.string sg) := cs
    replace CN : Hid (Calls Tryd.prog 41 #[.int .u8 4, .pointer (some ⟨w.heap.size, 0, none⟩)] wA fun e w' => e = .returned (.pointer (some ⟨w.heap.size, q, none⟩)) ∧ wA = w') := CN
    clear cs
    go_enter Tryd.func35, Tryd.ntmps35
    go_upto_region 1 with fail
    rw [← hwA]
    clear hwA
    by_cases hn : n < 0
    · go_wp2_with (go_at_call 41; (with_reducible refine CN.out.mono ?_); rintro e w1 ⟨rfl, rfl⟩)
      go_ret
      exact HX.out _ _ ⟨ret_text (HNN.out hn).symm, HBA.out⟩
    · have HE := Lib.hid (HSN.out hn)
      go_wp2_with (go_at_call 41; (with_reducible refine CN.out.mono ?_); rintro e w1 ⟨rfl, rfl⟩)
      have cF := CT.out
      have cS := cell_regrown cs'
      refine wp_region_quiet_below (by kernel_rfl) (by kernel_rfl) ?_
      repeat (go_big_quiet_step (with_reducible exact cF _ _))
      refine wpQuiet_nil ?_
      intro _ hw'
      obtain ⟨⟨dq, osq⟩, hw''⟩ := hw'
      subst hw''
      have HB6 := Lib.hid (below_regrown wA dq osq)
      generalize grow (redrawn wA dq) osq = w6 at HB6 ⊢
      clear cF cS
      go_wp2_with fail
      go_ret
      exact HX.out _ _ ⟨ret_text HE.out.symm, HBA.out.trans (HB6.out.mono HBA.out.size)⟩
  · have cs' : wA.cell? ⟨2, 15, none⟩ = some (.string sg) := cs
    replace CN : Hid (Calls Tryd.prog 41 #[.int .u8 5, .pointer (some ⟨w.heap.size, 0, none⟩)] wA fun e w' => e = .returned (.pointer (some ⟨w.heap.size, q, none⟩)) ∧ wA = w') := CN
    clear cs
    go_enter Tryd.func35, Tryd.ntmps35
    go_upto_region 1 with fail
    rw [← hwA]
    clear hwA
    by_cases hn : n < 0
    · go_wp2_with (go_at_call 41; (with_reducible refine CN.out.mono ?_); rintro e w1 ⟨rfl, rfl⟩)
      go_ret
      exact HX.out _ _ ⟨ret_text (HNN.out hn).symm, HBA.out⟩
    · have HE := Lib.hid (HSN.out hn)
      go_wp2_with (go_at_call 41; (with_reducible refine CN.out.mono ?_); rintro e w1 ⟨rfl, rfl⟩)
      have cF := CT.out
      have cS := cell_regrown cs'
      refine wp_region_quiet_below (by kernel_rfl) (by kernel_rfl) ?_
      repeat (go_big_quiet_step (with_reducible exact cF _ _))
      refine wpQuiet_nil ?_
      intro _ hw'
      obtain ⟨⟨dq, osq⟩, hw''⟩ := hw'
      subst hw''
      have HB6 := Lib.hid (below_regrown wA dq osq)
      generalize grow (redrawn wA dq) osq = w6 at HB6 ⊢
      clear cF cS
      go_wp2_with fail
      go_ret
      exact HX.out _ _ ⟨ret_text HE.out.symm, HBA.out.trans (HB6.out.mono HBA.out.size)⟩
  · have cs' : wA.cell? ⟨2, 18, none⟩ = some (.string sg) := cs
    replace CN : Hid (Calls Tryd.prog 41 #[.int .u8 6, .pointer (some ⟨w.heap.size, 0, none⟩)] wA fun e w' => e = .returned (.pointer (some ⟨w.heap.size, q, none⟩)) ∧ wA = w') := CN
    clear cs
    go_enter Tryd.func35, Tryd.ntmps35
    go_upto_region 1 with fail
    rw [← hwA]
    clear hwA
    by_cases hn : n < 0
    · go_wp2_with (go_at_call 41; (with_reducible refine CN.out.mono ?_); rintro e w1 ⟨rfl, rfl⟩)
      go_ret
      exact HX.out _ _ ⟨ret_text (HNN.out hn).symm, HBA.out⟩
    · have HE := Lib.hid (HSN.out hn)
      go_wp2_with (go_at_call 41; (with_reducible refine CN.out.mono ?_); rintro e w1 ⟨rfl, rfl⟩)
      have cF := CT.out
      have cS := cell_regrown cs'
      refine wp_region_quiet_below (by kernel_rfl) (by kernel_rfl) ?_
      repeat (go_big_quiet_step (with_reducible exact cF _ _))
      refine wpQuiet_nil ?_
      intro _ hw'
      obtain ⟨⟨dq, osq⟩, hw''⟩ := hw'
      subst hw''
      have HB6 := Lib.hid (below_regrown wA dq osq)
      generalize grow (redrawn wA dq) osq = w6 at HB6 ⊢
      clear cF cS
      go_wp2_with fail
      go_ret
      exact HX.out _ _ ⟨ret_text HE.out.symm, HBA.out.trans (HB6.out.mono HBA.out.size)⟩
  · have cs' : wA.cell? ⟨2, 21, none⟩ = some (.string sg) := cs
    replace CN : Hid (Calls Tryd.prog 41 #[.int .u8 7, .pointer (some ⟨w.heap.size, 0, none⟩)] wA fun e w' => e = .returned (.pointer (some ⟨w.heap.size, q, none⟩)) ∧ wA = w') := CN
    clear cs
    go_enter Tryd.func35, Tryd.ntmps35
    go_upto_region 1 with fail
    rw [← hwA]
    clear hwA
    by_cases hn : n < 0
    · go_wp2_with (go_at_call 41; (with_reducible refine CN.out.mono ?_); rintro e w1 ⟨rfl, rfl⟩)
      go_ret
      exact HX.out _ _ ⟨ret_text (HNN.out hn).symm, HBA.out⟩
    · have HE := Lib.hid (HSN.out hn)
      go_wp2_with (go_at_call 41; (with_reducible refine CN.out.mono ?_); rintro e w1 ⟨rfl, rfl⟩)
      have cF := CT.out
      have cS := cell_regrown cs'
      refine wp_region_quiet_below (by kernel_rfl) (by kernel_rfl) ?_
      repeat (go_big_quiet_step (with_reducible exact cF _ _))
      refine wpQuiet_nil ?_
      intro _ hw'
      obtain ⟨⟨dq, osq⟩, hw''⟩ := hw'
      subst hw''
      have HB6 := Lib.hid (below_regrown wA dq osq)
      generalize grow (redrawn wA dq) osq = w6 at HB6 ⊢
      clear cF cS
      go_wp2_with fail
      go_ret
      exact HX.out _ _ ⟨ret_text HE.out.symm, HBA.out.trans (HB6.out.mono HBA.out.size)⟩
  · have cs' : wA.cell? ⟨2, 24, none⟩ = some (.string sg) := cs
    replace CN : Hid (Calls Tryd.prog 41 #[.int .u8 8, .pointer (some ⟨w.heap.size, 0, none⟩)] wA fun e w' => e = .returned (.pointer (some ⟨w.heap.size, q, none⟩)) ∧ wA = w') := CN
    clear cs
    go_enter Tryd.func35, Tryd.ntmps35
    go_upto_region 1 with fail
    rw [← hwA]
    clear hwA
    by_cases hn : n < 0
    · go_wp2_with (go_at_call 41; (with_reducible refine CN.out.mono ?_); rintro e w1 ⟨rfl, rfl⟩)
      go_ret
      exact HX.out _ _ ⟨ret_text (HNN.out hn).symm, HBA.out⟩
    · have HE := Lib.hid (HSN.out hn)
      go_wp2_with (go_at_call 41; (with_reducible refine CN.out.mono ?_); rintro e w1 ⟨rfl, rfl⟩)
      have cF := CT.out
      have cS := cell_regrown cs'
      refine wp_region_quiet_below (by kernel_rfl) (by kernel_rfl) ?_
      repeat (go_big_quiet_step (with_reducible exact cF _ _))
      refine wpQuiet_nil ?_
      intro _ hw'
      obtain ⟨⟨dq, osq⟩, hw''⟩ := hw'
      subst hw''
      have HB6 := Lib.hid (below_regrown wA dq osq)
      generalize grow (redrawn wA dq) osq = w6 at HB6 ⊢
      clear cF cS
      go_wp2_with fail
      go_ret
      exact HX.out _ _ ⟨ret_text HE.out.symm, HBA.out.trans (HB6.out.mono HBA.out.size)⟩
end Go.Proofs.YtnkimfbdcghgpaaDoor
