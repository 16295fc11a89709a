/-
  DERIVED. The page's example may be.
-/
import Derived.Test.YtnkimfbdcghgpaaDoorYa
namespace Go.Proofs.YtnkimfbdcghgpaaDoor
open Go.RowKit Go.Sort

theorem ed0_act {w : World} {b o : Nat} (h : w.rangeAt b o ed0.cs.toList) : w.rangeAt b (o + 2) ac0.cs.toList := fun j v hv => by
  have := h (2 + j) v (by
    have e1 : ed0.cs.toList = [.int .i64 0, .int .i64 1] ++ ac0.cs.toList := by rfl
    rw [e1, List.getElem?_append_right (by simp)]; simpa using hv)
  rwa [← Nat.add_assoc] at this
theorem range_below {w w' : World} {b o : Nat} {cs : List Value} (h : w.rangeAt b o cs) (hb : Below w.heap.size w w') : w'.rangeAt b o cs := (Gr.of_below (S := fun _ => False) hb).range h id
set_option maxHeartbeats 1600000 in
set_option maxRecDepth 100000 in
theorem has_g0 (p : Option Addr) (w : World) (hG : Gl w) (h8 : 8 ≤ w.heap.size) : Calls Tryd.prog 10 #[.agg (g0 p).cs, .agg ac0.cs] w fun e w' => e = .returned (.bool true) ∧ Below w.heap.size w w' := by
  have HB : Hid (Below w.heap.size w ((w.alloc (.cells (g0 p).cs 26)).alloc (.cells ac0.cs 32))) := Lib.hid (((Below.refl _ _).alloc (Nat.le_refl _) _).alloc (by simp) _)
  have HA : Hid (Bk ((w.alloc (.cells (g0 p).cs 26)).alloc (.cells ac0.cs 32)) (w.heap.size + 1) 32 ac0.cs) := Lib.hid (by
    have := heap_alloc_new (w.alloc (.cells (g0 p).cs 26)) (.cells ac0.cs 32)
    rwa [World.size_alloc] at this)
  have HR := Lib.hid (right_any ac0 ((w.alloc (.cells (g0 p).cs 26)).alloc (.cells ac0.cs 32)) (hG.below HB.out h8))
  have hrt : Ac.rights ac0 = true := by decide
  rw [hrt] at HR
  clear hrt hG
  go_enter Tryd.func10, Tryd.ntmps10
  go_wp2_with (first
    | ((with_reducible show wpList _ _ _ (Oper.mk _ (Op.load 32 _) _ _ _ _ :: _) _ _); refine wpList_load_bk rfl 32 _ rfl (w.heap.size + 1) 32 ac0.cs rfl _ HA.out Tryd.underlying32 rfl size25 ?_)
    | (go_at_call 21; refine (HR.out).mono ?_; rintro en w2 ⟨rfl, hb⟩; have HB2 := Lib.hid hb; have c0 : w2.cell? ⟨w.heap.size + 1, 0, none⟩ = some (.int .i64 0) := (HA.out.below hb HA.out.lt).cell 0; clear hb)
    | fail)
  go_ret
  exact ⟨rfl, HB.out.trans (HB2.out.mono HB.out.size)⟩
set_option maxHeartbeats 3200000 in
set_option maxRecDepth 100000 in
theorem edges_g0 (b o : Nat) (w : World) (hr : w.rangeAt b o ed0.cs.toList) (hG : Gl w) (h8 : 8 ≤ w.heap.size) : Calls Tryd.prog 19 #[.agg (g0 (some ⟨b, o, none⟩)).cs] w fun e w' => e = .returned (.bool true) ∧ Below w.heap.size w w' := by
  have HK1 : Hid (Bk (w.alloc (.cells (g0 (some ⟨b, o, none⟩)).cs 26)) w.heap.size 26 (g0 (some ⟨b, o, none⟩)).cs) := Lib.hid (heap_alloc_new _ _)
  have HB1 : Hid (Below w.heap.size w (w.alloc (.cells (g0 (some ⟨b, o, none⟩)).cs 26))) := Lib.hid ((Below.refl _ _).alloc (Nat.le_refl _) _)
  have c4 : (w.alloc (.cells (g0 (some ⟨b, o, none⟩)).cs 26)).cell? ⟨w.heap.size, 4, none⟩ = some (.slice (some ⟨b, o, none⟩) 1 1) := HK1.out.cell 4
  have HR := Lib.hid hr
  have HG := Lib.hid hG
  clear hr hG
  go_enter Tryd.func19, Tryd.ntmps19
  go_wp2_with fail
  go_loopw [12] (fun si wr => ∃ k : Nat, si = .int .i64 k ∧ k ≤ 1 ∧ Hid (Below w.heap.size w wr) ∧ Hid (Bk wr w.heap.size 26 (g0 (some ⟨b, o, none⟩)).cs)) (fun si _ => 1 - (Lib.intOf si).toNat)
  case atStart => exact ⟨0, rfl, Nat.zero_le _, HB1, HK1⟩
  case round =>
    obtain ⟨k, rfl, hk, HBR, HKR⟩ := hrel
    have hk2 : k = 0 ∨ k = 1 := by omega
    rcases hk2 with rfl | rfl
    · have HRR := Lib.hid (range_below HR.out HBR.out)
      have HE : Hid (Bk (wr.alloc (.cells ed0.cs 34)) wr.heap.size 34 ed0.cs) := Lib.hid (heap_alloc_new _ _)
      have hal : Below wr.heap.size wr (wr.alloc (.cells ed0.cs 34)) := (Below.refl _ _).alloc (Nat.le_refl _) _
      have HKE := Lib.hid (HKR.out.below hal HKR.out.lt)
      have HBE : Hid (Below w.heap.size w (wr.alloc (.cells ed0.cs 34))) := Lib.hid (HBR.out.trans (hal.mono HBR.out.size))
      clear hal
      have d0 : (wr.alloc (.cells ed0.cs 34)).cell? ⟨wr.heap.size, 0, none⟩ = some (.int .i64 0) := HE.out.cell 0
      go_wp2_with (first
        | ((with_reducible show wpList _ _ _ (Oper.mk _ (Op.load 34 _) _ _ _ _ :: _) _ _); refine wpList_load_arr rfl 34 _ rfl b o (by simp [Act.eval]) ed0.cs _ HRR.out Tryd.underlying34 rfl size34 ?_)
        | ((with_reducible show wpList _ _ _ (Oper.mk _ (Op.store 34 _ _) _ _ _ _ :: _) _ _); refine wpList_store_new rfl 34 _ _ rfl _ ed0.cs rfl rfl size34 rfl (Ed.one ed0) ?_)
        | ((with_reducible show wpList _ _ _ (Oper.mk _ (Op.load 26 _) _ _ _ _ :: _) _ _); refine wpList_load_bk rfl 26 _ rfl w.heap.size 26 (g0 (some ⟨b, o, none⟩)).cs rfl _ HKE.out Tryd.underlying26 rfl size26 ?_)
        | fail)
      refine (isPoint_any (g0 (some ⟨b, o, none⟩)) 0 _).mono ?_
      rintro en w2 ⟨rfl, hb⟩
      have HK2 := Lib.hid (HKE.out.below hb HKE.out.lt)
      have HE2 := Lib.hid (HE.out.below hb HE.out.lt)
      have HB2 : Hid (Below w.heap.size w w2) := Lib.hid (HBE.out.trans (hb.mono HBE.out.size))
      clear hb d0
      have d1 : w2.cell? ⟨wr.heap.size, 1, none⟩ = some (.int .i64 1) := HE2.out.cell 1
      go_wp2_with (first
        | ((with_reducible show wpList _ _ _ (Oper.mk _ (Op.load 26 _) _ _ _ _ :: _) _ _); refine wpList_load_bk_g 26 _ (by rfl) rfl w.heap.size 26 (g0 (some ⟨b, o, none⟩)).cs rfl _ HK2.out Tryd.underlying26 rfl size26 ?_)
        | fail)
      refine (isPoint_any (g0 (some ⟨b, o, none⟩)) 1 _).mono ?_
      rintro en w3 ⟨rfl, hb⟩
      have HK3 := Lib.hid (HK2.out.below hb HK2.out.lt)
      have HE3 := Lib.hid (HE2.out.below hb HE2.out.lt)
      have HB3 : Hid (Below w.heap.size w w3) := Lib.hid (HB2.out.trans (hb.mono HB2.out.size))
      have HA3 := Lib.hid (ed0_act (o := 0) HE3.out.range)
      have HS3 : Hid (8 ≤ w3.heap.size) := Lib.hid (Nat.le_trans h8 HB3.out.size)
      clear hb d1
      go_wp2_with (first
        | ((with_reducible show wpList _ _ _ (Oper.mk _ (Op.load 26 _) _ _ _ _ :: _) _ _); refine wpList_load_bk_g 26 _ (by rfl) rfl w.heap.size 26 (g0 (some ⟨b, o, none⟩)).cs rfl _ HK3.out Tryd.underlying26 rfl size26 ?_)
        | ((with_reducible show wpList _ _ _ (Oper.mk _ (Op.load 32 _) _ _ _ _ :: _) _ _); refine wpList_load_arr_g 32 _ (by rfl) rfl wr.heap.size 2 (by simp [Act.eval]) ac0.cs _ HA3.out Tryd.underlying32 rfl size25 ?_)
        | fail)
      refine (has_g0 (some ⟨b, o, none⟩) w3 (HG.out.below HB3.out h8) HS3.out).mono ?_
      rintro en w4 ⟨rfl, hb⟩
      have HK4 := Lib.hid (HK3.out.below hb HK3.out.lt)
      have HB4 : Hid (Below w.heap.size w w4) := Lib.hid (HB3.out.trans (hb.mono HB3.out.size))
      clear hb
      go_wp2_with fail
      go_roundw
      case rel => exact ⟨1, rfl, Nat.le_refl _, HB4, HK4⟩
      case measure => simp [Lib.intOf]
    · go_wp2_with fail
      go_ret
      exact ⟨rfl, HBR.out⟩
end Go.Proofs.YtnkimfbdcghgpaaDoor
