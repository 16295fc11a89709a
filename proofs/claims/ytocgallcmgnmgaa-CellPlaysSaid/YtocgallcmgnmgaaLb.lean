/-
  DERIVED. The law CellPlays.
-/
import Derived.Test.YtocgallcmgnmgaaLc
namespace Go.Proofs.Ytocgallcmgnmgaa
open Go.RowKit Go.Maps

set_option maxHeartbeats 3200000 in
set_option maxRecDepth 100000 in
theorem plays_law (p0 : Option Addr) (F c0 : Nat) (p1 : Option Addr) (l : List RC) (c1 : Nat) (p2 : Option Addr) (os : List OpN) (c2 : Nat) (w : World) (hl : LayR 3 RC.cells RC.lies w p1 l) (ho : LayR 5 OpN.cells (fun _ x => x.ok) w p2 os) :
    Calls Try.prog 3 #[.slice p0 F c0, .slice p1 l.length c1, .slice p2 os.length c2] w (livesP w) := by
  have HLV := Lib.hid (lives_any w)
  by_cases h20 : 20 < F
  · have hd : decide (20 < (F : Int)) = true := decide_eq_true (by omega)
    clear hl ho
    go_enter Try.func3, Try.ntmps3
    go_wp2_with (go_at_call 6; refine HLV.out.mono ?_; rintro e w2 ⟨rfl, hb2⟩; have HB2 := Lib.hid hb2; clear hb2)
    go_ret
    exact ⟨rfl, HB2.out⟩
  have d20 : decide (20 < (F : Int)) = false := decide_eq_false (by omega)
  by_cases h30 : 30 < l.length
  · have hd : decide (30 < (l.length : Int)) = true := decide_eq_true (by omega)
    clear hl ho
    go_enter Try.func3, Try.ntmps3
    go_wp2_with (go_at_call 6; refine HLV.out.mono ?_; rintro e w2 ⟨rfl, hb2⟩; have HB2 := Lib.hid hb2; clear hb2)
    go_ret
    exact ⟨rfl, HB2.out⟩
  have d30 : decide (30 < (l.length : Int)) = false := decide_eq_false (by omega)
  by_cases h100 : 100 < os.length
  · have hd : decide (100 < (os.length : Int)) = true := decide_eq_true (by omega)
    clear hl ho
    go_enter Try.func3, Try.ntmps3
    go_wp2_with (go_at_call 6; refine HLV.out.mono ?_; rintro e w2 ⟨rfl, hb2⟩; have HB2 := Lib.hid hb2; clear hb2)
    go_ret
    exact ⟨rfl, HB2.out⟩
  have d100 : decide (100 < (os.length : Int)) = false := decide_eq_false (by omega)
  have HLD : Hid (Calls Try.prog 7 #[.slice p0 F c0, .slice p1 l.length c1] w (LoadP F w (loaded F l))) := Lib.hid (load_any F c0 c1 p0 p1 l w hl (by omega) (by omega))
  have HRD : Hid (∀ w1, Below w.heap.size w w1 → Calls Try.prog 8 #[.slice p0 F c0, .slice p1 l.length c1] w1 (OwnP F w1 (loaded F l))) := Lib.hid (fun w1 hb => refLoad_any F c0 c1 p0 p1 l w1 (hl.below hb (fun x h => RC.lies_below h hb)) (by omega) (by omega))
  have HO := Lib.hid ho
  have hF : F ≤ 20 := by omega
  have hL : Hid ((loaded F l).length ≤ 30) := Lib.hid (by rw [loaded_len]; omega)
  have hO : os.length ≤ 100 := by omega
  clear hl ho h20 h30 h100
  go_enter Try.func3, Try.ntmps3
  go_wp2_with fail
  refine HLD.out.mono ?_; rintro e w1 ⟨b, R, v, rfl, hi, hR, hb, hw⟩
  have HW1 := Lib.hid hw
  have HI1 := Lib.hid hi
  have HR1 := Lib.hid hR
  have HB1 := Lib.hid hb
  have HCL := Lib.hid (HRD.out w1 hw)
  clear hi hR hb hw
  go_wp2_with fail
  refine HCL.out.mono ?_; rintro e w2 ⟨vr, N, rfl, hox, hN, hw2⟩
  have HST := Lib.hid (pl_start HI1.out HR1.out HB1.out HW1.out hox hN hw2)
  have HOX := Lib.hid hox
  clear hox hN hw2 HI1 HR1 HB1 HW1 HCL HLD HRD
  generalize loaded F l = cs0 at HST HOX hL
  go_wp2_with (first | ((with_reducible show wpList _ _ _ (Oper.mk none (Op.store _ _ _) _ _ _ _ :: _) _ _); refine wpList_store_new rfl 29 (.tmp 8) (.tmp 31) rfl _ (RefA F vr) rfl rfl size29 rfl HOX.out.oneA ?_))
  generalize w2.alloc (.cells (RefA F vr) 29) = wS at HST ⊢
  generalize w2.heap.size = B at HST ⊢
  clear HOX
  have HIS := Lib.hid (HST.out.is_ (by omega) (by have := hL.out; omega))
  have HBX := Lib.hid HST.out.box
  go_wp2_with (first
    | ((with_reducible show wpList _ _ _ (Oper.mk (some 36) _ _ _ _ _ :: _) _ _); refine wpList_load_bk rfl 29 (.tmp 8) rfl B 29 (RefA F vr) rfl _ HBX.out Try.underlying29 rfl size29 ?_)
    | (go_at_call 9; refine HIS.out.mono ?_; rintro e w4 ⟨rfl, hb4⟩; have HS4 := Lib.hid (HST.out.go hb4); clear hb4))
  clear HIS HBX HST
  have hL0 : cs0.length ≤ 30 := hL.out
  clear hL
  go_loopw [9] (fun t wr => ∃ (k : Nat) (cs : List PC) (vr : Value), t = .int .i64 k ∧ k ≤ os.length ∧ Hid (PlI F w wr b B cs vr) ∧ cs.length ≤ 30 + k) (fun t _ => os.length - (intOf t).toNat)
  case atStart => exact ⟨0, cs0, vr, rfl, Nat.zero_le _, HS4, hL0⟩
  case round =>
    obtain ⟨k, cs, vr, rfl, hk, HI, hcl⟩ := hrel
    by_cases hkl : k < os.length
    · obtain ⟨o, ho⟩ : ∃ o, os[k]? = some o := ⟨_, List.getElem?_eq_getElem hkl⟩
      obtain ⟨ob, oo, rfl, hit, hok⟩ := HO.out.at_ ho
      have hk0 : (0 : Int) ≤ (k : Int) := Int.natCast_nonneg _
      have hk1 : (k : Int) < (os.length : Int) := by omega
      have HIT : Hid (w.rangeAt ob (oo + k * 5) o.cells) := Lib.hid hit
      have HOK : Hid o.ok := Lib.hid hok
      have hcs : cs.length ≤ 2000000 := by omega
      have hns : (stepC F cs o).length ≤ 30 + (k + 1) := by have := stepC_len F cs o; omega
      clear hit hok ho
      go_upto_region 10 with fail
      have HID := Lib.hid (HI.out.go (wz := wr.drew) (below_drew (Below.refl _ _)))
      have HD1 := Lib.hid (HID.out.does (by omega) hcs o HOK.out)
      have HD2 : Hid (Calls Try.prog 10 #[.pointer (some ⟨b, 0, none⟩), .agg (RefA F vr), .agg (opA o.kd o.t o.c o.f o.d)] (wr.alloc (.cells #[.int .i64 0, .slice none 0 0, .bool false] 29)).drew _) := Lib.hid (HID.out.does_new (by omega) hcs o HOK.out)
      have HS0 : Hid (Sees F B vr o ob (oo + k * 5) wr.drew) := Lib.hid (HID.out.j.sees HIT.out)
      have HSA : Hid (Sees F B vr o ob (oo + k * 5) (wr.alloc (.cells #[.int .i64 0, .slice none 0 0, .bool false] 29)).drew) := Lib.hid ((HID.out.j.go (alloc_below _ _)).sees HIT.out)
      have HMR : Hid (∀ w5, Bk w5 B 29 (RefA F vr) → Below w.heap.size w w5 → Sees F B vr o ob (oo + k * 5) w5) := Lib.hid (fun w5 h hb => sees_of h hb HIT.out)
      unfold Sees at HS0 HSA HMR
      go_region_held3 (fun w' => w'.cell? ⟨B, 0, none⟩ = some (.int .i64 F) ∧ w'.cell? ⟨B, 1, none⟩ = some vr ∧ w'.cell? ⟨B, 2, none⟩ = some (.bool true) ∧ w'.cell? ⟨ob, oo + k * 5, none⟩ = some (.int .u8 o.kd) ∧ w'.cell? ⟨ob, oo + k * 5 + 1, none⟩ = some (.int .i64 o.t) ∧ w'.cell? ⟨ob, oo + k * 5 + 2, none⟩ = some (.int .i64 o.c) ∧ w'.cell? ⟨ob, oo + k * 5 + 3, none⟩ = some (.int .i64 o.f) ∧ w'.cell? ⟨ob, oo + k * 5 + 4, none⟩ = some (.int .i64 o.d)) (first | (with_reducible exact HS0.out) | (with_reducible exact HSA.out) | (with_reducible exact HMR.out w5 HJJ.out.box HJJ.out.below) | (with_reducible exact HMR.out _ HE1.out.box HE1.out.below) | (with_reducible exact HMR.out _ (HJJ.out.go (alloc_below w5 _)).box (HJJ.out.go (alloc_below w5 _)).below) | fail) (first
        | (go_at_call 10; refine HD1.out.mono ?_; rintro e w5 ⟨v', rfl, HJJ⟩; obtain ⟨p5, m5, k5, rfl⟩ := HJJ.out.form)
        | (go_at_call 10; refine HD2.out.mono ?_; rintro e w5 ⟨v', rfl, HJJ, HTT, HEN⟩; obtain ⟨p5, m5, k5, rfl⟩ := HJJ.out.form; obtain ⟨t0, t1, t2, f0, f1, f2⟩ := z29_cells (T := wr.heap.size) HTT.out; have HE1 : Hid (PlJ F w (((w5.setCell ⟨wr.heap.size, 0, none⟩ (.int .i64 F)).setCell ⟨wr.heap.size, 1, none⟩ (.slice p5 m5 k5)).setCell ⟨wr.heap.size, 2, none⟩ (.bool true)) b B (stepC F cs o) (.slice p5 m5 k5) vr) := Lib.hid HEN.out.1))
      · have HQ : Hid (PlT F w (w5.alloc (.cells #[.int .i64 F, .slice p5 m5 k5, .bool true] 29)) b B w5.heap.size (stepC F cs o) (.slice p5 m5 k5) vr) := Lib.hid HJJ.out.new
        clear HI HID HD1 HD2 HS0 HSA HMR HJJ
        generalize w5.alloc (.cells #[.int .i64 F, .slice p5 m5 k5, .bool true] 29) = wq at HQ ⊢
        generalize w5.heap.size = T at HQ ⊢
        have y0 := HQ.out.2.cell 0
        have y1 := HQ.out.2.cell 1
        have y2 := HQ.out.2.cell 2
        have HIS := Lib.hid (HQ.out.1.is_ (by omega) (by omega))
        go_wp2_with (first
          | (go_at_call 9; refine HIS.out.mono ?_; rintro e w6 ⟨rfl, hb6⟩; have HQ6 := Lib.hid (HQ.out.go hb6); have HBT6 := Lib.hid HQ6.out.2; have HBB6 := Lib.hid HQ6.out.1.box; clear hb6)
          | ((with_reducible show wpList _ _ _ (Oper.mk (some 64) _ _ _ _ _ :: _) _ _); refine wpList_load_bk rfl 29 (.tmp 10) rfl T 29 (RefA F (.slice p5 m5 k5)) rfl _ HBT6.out Try.underlying29 rfl size29 ?_)
          | ((with_reducible show wpList _ _ _ (Oper.mk none (Op.store 29 _ _) _ _ _ _ :: _) _ _); refine wpList_store_part rfl 29 (.tmp 8) (.tmp 64) rfl B 0 29 _ (RefA F (.slice p5 m5 k5)) rfl rfl HBB6.out size29 (by simp) (by simp [Value.oneCell']) ?_; intro w7 cur7 q1 q2 q3 q4 q5; have HN : Hid (PlI F w w7 b B (stepC F cs o) (.slice p5 m5 k5)) := Lib.hid (HQ6.out.1.keep q5 ((own_res q2 q3) ▸ q1)); clear q1 q2 q3 q4 q5))
        go_roundw
        case rel => exact ⟨k + 1, _, _, by go_num, by omega, HN, hns⟩
        case measure => simp [intOf]; omega
      · have HQ : Hid (PlT F w (((w5.setCell ⟨wr.heap.size, 0, none⟩ (.int .i64 F)).setCell ⟨wr.heap.size, 1, none⟩ (.slice p5 m5 k5)).setCell ⟨wr.heap.size, 2, none⟩ (.bool true)) b B wr.heap.size (stepC F cs o) (.slice p5 m5 k5) vr) := Lib.hid HEN.out
        clear HI HID HD1 HD2 HS0 HSA HMR HJJ HEN HE1 HTT t0 t1 t2 f0 f1 f2
        generalize ((w5.setCell ⟨wr.heap.size, 0, none⟩ (.int .i64 F)).setCell ⟨wr.heap.size, 1, none⟩ (.slice p5 m5 k5)).setCell ⟨wr.heap.size, 2, none⟩ (.bool true) = wq at HQ ⊢
        generalize wr.heap.size = T at HQ ⊢
        have y0 := HQ.out.2.cell 0
        have y1 := HQ.out.2.cell 1
        have y2 := HQ.out.2.cell 2
        have HIS := Lib.hid (HQ.out.1.is_ (by omega) (by omega))
        go_wp2_with (first
          | (go_at_call 9; refine HIS.out.mono ?_; rintro e w6 ⟨rfl, hb6⟩; have HQ6 := Lib.hid (HQ.out.go hb6); have HBT6 := Lib.hid HQ6.out.2; have HBB6 := Lib.hid HQ6.out.1.box; clear hb6)
          | ((with_reducible show wpList _ _ _ (Oper.mk (some 64) _ _ _ _ _ :: _) _ _); refine wpList_load_bk rfl 29 (.tmp 10) rfl T 29 (RefA F (.slice p5 m5 k5)) rfl _ HBT6.out Try.underlying29 rfl size29 ?_)
          | ((with_reducible show wpList _ _ _ (Oper.mk none (Op.store 29 _ _) _ _ _ _ :: _) _ _); refine wpList_store_part rfl 29 (.tmp 8) (.tmp 64) rfl B 0 29 _ (RefA F (.slice p5 m5 k5)) rfl rfl HBB6.out size29 (by simp) (by simp [Value.oneCell']) ?_; intro w7 cur7 q1 q2 q3 q4 q5; have HN : Hid (PlI F w w7 b B (stepC F cs o) (.slice p5 m5 k5)) := Lib.hid (HQ6.out.1.keep q5 ((own_res q2 q3) ▸ q1)); clear q1 q2 q3 q4 q5))
        go_roundw
        case rel => exact ⟨k + 1, _, _, by go_num, by omega, HN, hns⟩
        case measure => simp [intOf]; omega
    · have HLZ := Lib.hid (lives_any wr)
      have HBW : Hid (Below w.heap.size w wr) := Lib.hid HI.out.below
      clear HI
      go_wp2_with (go_at_call 6; refine HLZ.out.mono ?_; rintro e w2 ⟨rfl, hb2⟩; have HB2 : Hid (Below w.heap.size w w2) := Lib.hid (HBW.out.trans (hb2.mono HBW.out.size)); clear hb2)
      go_ret
      exact ⟨rfl, HB2.out⟩
end Go.Proofs.Ytocgallcmgnmgaa
