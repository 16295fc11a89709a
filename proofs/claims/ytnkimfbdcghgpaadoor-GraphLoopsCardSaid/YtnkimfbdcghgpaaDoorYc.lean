/-
  DERIVED. The page's example: how it goes on; Right of it.
-/
import Derived.Test.YtnkimfbdcghgpaaDoorYb
namespace Go.Proofs.YtnkimfbdcghgpaaDoor
open Go.RowKit Go.Sort

theorem web0 : web [ed0] 2 = [[ed0], []] := by rfl
theorem rs1 {q : Nat} (h : Rs [[ed0], []] 1 q) : q = 1 := by
  induction h with
  | refl => rfl
  | step c d _ hd ih =>
    subst ih
    obtain ⟨e, he, _⟩ := hd
    simp at he
theorem nocirc0 : ¬ Circ [[ed0], []] := by
  rintro ⟨p, e, he, hr⟩
  rcases p with _ | _ | p
  · simp at he
    subst he
    have := rs1 hr
    omega
  · simp at he
  · simp at he
theorem rs00 : Rs [[ed0], []] 0 0 := .refl
theorem rs01 : Rs [[ed0], []] 0 1 := .step 0 1 .refl ⟨ed0, by simp, rfl⟩
theorem cut_g0 (b o : Nat) (w : World) (hr : w.rangeAt b o ed0.cs.toList) : Calls Tryd.prog 7 #[.agg (g0 (some ⟨b, o, none⟩)).cs] w fun e w' => e = .returned (.bool true) ∧ Below w.heap.size w w' := by
  have hl : ELies w w.heap.size (g0 (some ⟨b, o, none⟩)).ep (g0 (some ⟨b, o, none⟩)).es := by
    refine lies_any (x := b + 1) (.inr ⟨b, o, rfl, by omega, fun k e hk => ?_⟩) (Nat.le_refl _)
    rcases k with _ | k
    · simp at hk; subst hk; simpa using hr
    · simp at hk
  refine (cut_any (g0 (some ⟨b, o, none⟩)) 2 rfl (by decide) (by decide) (by show 1 ≤ 4000; decide) (by show 2 * 1 ≤ 40000; decide) rfl w hl).mono ?_
  rintro en w2 ⟨r, rfl, h1, h2⟩
  refine ⟨?_, h2⟩
  rcases r with _ | _
  · exact absurd (h1.1 rfl) (by show ¬ Circ (web [ed0] 2); rw [web0]; exact nocirc0)
  · rfl
set_option maxHeartbeats 3200000 in
set_option maxRecDepth 100000 in
theorem goes_g0 (b o : Nat) (w : World) (hr : w.rangeAt b o ed0.cs.toList) : Calls Tryd.prog 20 #[.agg (g0 (some ⟨b, o, none⟩)).cs] w fun e w' => e = .returned (.bool true) ∧ Below w.heap.size w w' := by
  have hl : ∀ w' : World, Below w.heap.size w w' → ELies w' (b + 1) (g0 (some ⟨b, o, none⟩)).ep (g0 (some ⟨b, o, none⟩)).es := fun w' hb => .inr ⟨b, o, rfl, by omega, fun k e hk => by
    rcases k with _ | k
    · simp [g0] at hk; subst hk; simpa using range_below hr hb
    · simp [g0] at hk⟩
  have HL := Lib.hid hl
  have HK1 : Hid (Bk (w.alloc (.cells (g0 (some ⟨b, o, none⟩)).cs 26)) w.heap.size 26 (g0 (some ⟨b, o, none⟩)).cs) := Lib.hid (heap_alloc_new _ _)
  have HB1 : Hid (Below w.heap.size w (w.alloc (.cells (g0 (some ⟨b, o, none⟩)).cs 26))) := Lib.hid ((Below.refl _ _).alloc (Nat.le_refl _) _)
  have HWO := Lib.hid (woven_any (g0 (some ⟨b, o, none⟩)) 2 rfl (by decide) (by decide) (by show 1 ≤ 4000; decide) (b + 1) _ (hl _ HB1.out))
  clear hl hr
  go_enter Tryd.func20, Tryd.ntmps20
  go_wp2_with (first
    | ((with_reducible show wpList _ _ _ (Oper.mk _ (Op.load 26 _) _ _ _ _ :: _) _ _); refine wpList_load_bk rfl 26 _ rfl w.heap.size 26 (g0 (some ⟨b, o, none⟩)).cs rfl _ HK1.out Tryd.underlying26 rfl size26 ?_)
    | fail)
  refine (HWO.out).mono ?_
  rintro en w2 ⟨B, wb, vs, rfl, hwes, hb, hbb⟩
  have hwes2 : Wes w2 B wb vs [[ed0], []] := by rw [← web0]; exact hwes
  have HK2 := Lib.hid (HK1.out.below hb HK1.out.lt)
  have HB2 : Hid (Below w.heap.size w w2) := Lib.hid (HB1.out.trans (hb.mono HB1.out.size))
  have HWE := Lib.hid hwes2
  clear hb hwes hwes2 hbb HWO
  have c1 : w2.cell? ⟨w.heap.size, 1, none⟩ = some (.int .i64 0) := HK2.out.cell 1
  have HFR := Lib.hid (from_any (g0 (some ⟨b, o, none⟩)) 2 rfl (by decide) (by decide) (by show 1 ≤ 4000; decide) (b + 1) w2 (HL.out _ HB2.out) 0 (by decide))
  go_wp2_with (first
    | ((with_reducible show wpList _ _ _ (Oper.mk _ (Op.load 26 _) _ _ _ _ :: _) _ _); refine wpList_load_bk rfl 26 _ rfl w.heap.size 26 (g0 (some ⟨b, o, none⟩)).cs rfl _ HK2.out Tryd.underlying26 rfl size26 ?_)
    | fail)
  refine (HFR.out).mono ?_
  rintro en w3 ⟨rb, bs, rfl, hrb, hbl, hbs, hb⟩
  have HK3 := Lib.hid (HK2.out.below hb HK2.out.lt)
  have HB3 : Hid (Below w.heap.size w w3) := Lib.hid (HB2.out.trans (hb.mono HB2.out.size))
  have HWE3 := Lib.hid (HWE.out.below hb)
  have hb0 : bs[0]? = some true := (hbs 0).2 (by show Rs (web [ed0] 2) 0 0; rw [web0]; exact rs00)
  have hb1 : bs[1]? = some true := (hbs 1).2 (by show Rs (web [ed0] 2) 0 1; rw [web0]; exact rs01)
  have HRB := Lib.hid hrb
  have HBS := Lib.hid (And.intro hb0 hb1)
  clear hb c1 hrb hbl hbs hb0 hb1 HFR HWE HK1 HB1 HK2 HB2
  go_wp2_with fail
  go_loopw [13] (fun si wr => ∃ k : Nat, si = .int .i64 k ∧ k ≤ 2 ∧ Hid (Below w3.heap.size w3 wr)) (fun si _ => 2 - (Lib.intOf si).toNat)
  case atStart => exact ⟨0, rfl, Nat.zero_le _, Lib.hid (Below.refl _ _)⟩
  case round =>
    obtain ⟨k, rfl, hk, HBR⟩ := hrel
    have HKR := Lib.hid (HK3.out.below HBR.out HK3.out.lt)
    have HWR := Lib.hid (HWE3.out.below HBR.out)
    have HRR := Lib.hid (HRB.out.below HBR.out HRB.out.lt)
    have c2 : wr.cell? ⟨w.heap.size, 2, none⟩ = some (.int .i64 1) := HKR.out.cell 2
    have hk2 : k = 0 ∨ k = 1 ∨ k = 2 := by omega
    rcases hk2 with rfl | rfl | rfl
    · have d0 : wr.cell? ⟨rb, 0, none⟩ = some (.bool true) := by rw [HRR.out.cell]; simp [HBS.out.1]
      obtain ⟨v, hv, hov, hcv, -⟩ := HWR.out.at_ (t := 0) (xs := [ed0]) rfl
      obtain ⟨pp, cc, rfl⟩ := own_shape hov
      obtain ⟨eb, eo, rfl, -, hre⟩ := (oe_read (x := 0) hov (by have := HWR.out.lt; omega)).at_ (k := 0) rfl
      have HDE := Lib.hid (decides_one eb eo cc wr (by simpa using hre))
      have e0 : wr.cell? ⟨wb, 0, none⟩ = some (.slice (some ⟨eb, eo, none⟩) 1 cc) := hcv
      clear hv hov hcv hre
      go_wp2_with (go_at_call 31; refine (HDE.out).mono ?_; rintro en w4 ⟨rfl, hb⟩; have HB4 := Lib.hid hb; clear hb)
      go_roundw
      case rel => exact ⟨1, rfl, by omega, Lib.hid (HBR.out.trans (HB4.out.mono HBR.out.size))⟩
      case measure => simp [Lib.intOf]
    · have d0 : wr.cell? ⟨rb, 1, none⟩ = some (.bool true) := by rw [HRR.out.cell]; simp [HBS.out.2]
      obtain ⟨v, hv, hov, hcv, -⟩ := HWR.out.at_ (t := 1) (xs := []) rfl
      obtain ⟨pp, cc, rfl⟩ := own_shape hov
      have e0 : wr.cell? ⟨wb, 1, none⟩ = some (.slice pp 0 cc) := hcv
      clear hv hov hcv
      go_wp2_with fail
      go_roundw
      case rel => exact ⟨2, rfl, by omega, HBR⟩
      case measure => simp [Lib.intOf]
    · go_wp2_with fail
      go_ret
      exact ⟨rfl, HB3.out.trans (HBR.out.mono HB3.out.size)⟩
set_option maxHeartbeats 1600000 in
set_option maxRecDepth 100000 in
theorem right_g0 (b o : Nat) (w : World) (hr : w.rangeAt b o ed0.cs.toList) (hG : Gl w) (h8 : 8 ≤ w.heap.size) : Calls Tryd.prog 9 #[.agg (g0 (some ⟨b, o, none⟩)).cs] w fun e w' => e = .returned (.bool true) ∧ Below w.heap.size w w' := by
  have HK1 : Hid (Bk (w.alloc (.cells (g0 (some ⟨b, o, none⟩)).cs 26)) w.heap.size 26 (g0 (some ⟨b, o, none⟩)).cs) := Lib.hid (heap_alloc_new _ _)
  have HB1 : Hid (Below w.heap.size w (w.alloc (.cells (g0 (some ⟨b, o, none⟩)).cs 26))) := Lib.hid ((Below.refl _ _).alloc (Nat.le_refl _) _)
  have HR := Lib.hid hr
  have HG := Lib.hid hG
  clear hr hG
  go_enter Tryd.func9, Tryd.ntmps9
  go_wp2_with (first | ((with_reducible show wpList _ _ _ (Oper.mk _ (Op.load 26 _) _ _ _ _ :: _) _ _); refine wpList_load_bk rfl 26 _ rfl w.heap.size 26 (g0 (some ⟨b, o, none⟩)).cs rfl _ HK1.out Tryd.underlying26 rfl size26 ?_) | ((with_reducible show wpList _ _ _ (Oper.mk _ (Op.load 26 _) _ _ _ _ :: _) _ _); refine wpList_load_bk_g 26 _ (by rfl) rfl w.heap.size 26 (g0 (some ⟨b, o, none⟩)).cs rfl _ HK1.out Tryd.underlying26 rfl size26 ?_) | fail)
  refine (points_g0 (some ⟨b, o, none⟩) _).mono ?_
  rintro en w2 ⟨rfl, hb⟩
  have HK2 := Lib.hid (HK1.out.below hb HK1.out.lt)
  have HB2 : Hid (Below w.heap.size w w2) := Lib.hid (HB1.out.trans (hb.mono HB1.out.size))
  clear hb
  go_wp2_with (first | ((with_reducible show wpList _ _ _ (Oper.mk _ (Op.load 26 _) _ _ _ _ :: _) _ _); refine wpList_load_bk rfl 26 _ rfl w.heap.size 26 (g0 (some ⟨b, o, none⟩)).cs rfl _ HK2.out Tryd.underlying26 rfl size26 ?_) | ((with_reducible show wpList _ _ _ (Oper.mk _ (Op.load 26 _) _ _ _ _ :: _) _ _); refine wpList_load_bk_g 26 _ (by rfl) rfl w.heap.size 26 (g0 (some ⟨b, o, none⟩)).cs rfl _ HK2.out Tryd.underlying26 rfl size26 ?_) | fail)
  refine (counts_g0 (some ⟨b, o, none⟩) _).mono ?_
  rintro en w3 ⟨rfl, hb⟩
  have HK3 := Lib.hid (HK2.out.below hb HK2.out.lt)
  have HB3 : Hid (Below w.heap.size w w3) := Lib.hid (HB2.out.trans (hb.mono HB2.out.size))
  clear hb
  go_wp2_with (first | ((with_reducible show wpList _ _ _ (Oper.mk _ (Op.load 26 _) _ _ _ _ :: _) _ _); refine wpList_load_bk rfl 26 _ rfl w.heap.size 26 (g0 (some ⟨b, o, none⟩)).cs rfl _ HK3.out Tryd.underlying26 rfl size26 ?_) | ((with_reducible show wpList _ _ _ (Oper.mk _ (Op.load 26 _) _ _ _ _ :: _) _ _); refine wpList_load_bk_g 26 _ (by rfl) rfl w.heap.size 26 (g0 (some ⟨b, o, none⟩)).cs rfl _ HK3.out Tryd.underlying26 rfl size26 ?_) | fail)
  refine (heads_g0 (some ⟨b, o, none⟩) _).mono ?_
  rintro en w4 ⟨rfl, hb⟩
  have HK4 := Lib.hid (HK3.out.below hb HK3.out.lt)
  have HB4 : Hid (Below w.heap.size w w4) := Lib.hid (HB3.out.trans (hb.mono HB3.out.size))
  clear hb
  go_wp2_with (first | ((with_reducible show wpList _ _ _ (Oper.mk _ (Op.load 26 _) _ _ _ _ :: _) _ _); refine wpList_load_bk rfl 26 _ rfl w.heap.size 26 (g0 (some ⟨b, o, none⟩)).cs rfl _ HK4.out Tryd.underlying26 rfl size26 ?_) | ((with_reducible show wpList _ _ _ (Oper.mk _ (Op.load 26 _) _ _ _ _ :: _) _ _); refine wpList_load_bk_g 26 _ (by rfl) rfl w.heap.size 26 (g0 (some ⟨b, o, none⟩)).cs rfl _ HK4.out Tryd.underlying26 rfl size26 ?_) | fail)
  refine (edges_g0 b o _ (range_below HR.out HB4.out) (HG.out.below HB4.out h8) (Nat.le_trans h8 HB4.out.size)).mono ?_
  rintro en w5 ⟨rfl, hb⟩
  have HK5 := Lib.hid (HK4.out.below hb HK4.out.lt)
  have HB5 : Hid (Below w.heap.size w w5) := Lib.hid (HB4.out.trans (hb.mono HB4.out.size))
  clear hb
  go_wp2_with (first | ((with_reducible show wpList _ _ _ (Oper.mk _ (Op.load 26 _) _ _ _ _ :: _) _ _); refine wpList_load_bk rfl 26 _ rfl w.heap.size 26 (g0 (some ⟨b, o, none⟩)).cs rfl _ HK5.out Tryd.underlying26 rfl size26 ?_) | ((with_reducible show wpList _ _ _ (Oper.mk _ (Op.load 26 _) _ _ _ _ :: _) _ _); refine wpList_load_bk_g 26 _ (by rfl) rfl w.heap.size 26 (g0 (some ⟨b, o, none⟩)).cs rfl _ HK5.out Tryd.underlying26 rfl size26 ?_) | fail)
  refine (goes_g0 b o _ (range_below HR.out HB5.out)).mono ?_
  rintro en w6 ⟨rfl, hb⟩
  have HK6 := Lib.hid (HK5.out.below hb HK5.out.lt)
  have HB6 : Hid (Below w.heap.size w w6) := Lib.hid (HB5.out.trans (hb.mono HB5.out.size))
  clear hb
  go_wp2_with (first | ((with_reducible show wpList _ _ _ (Oper.mk _ (Op.load 26 _) _ _ _ _ :: _) _ _); refine wpList_load_bk rfl 26 _ rfl w.heap.size 26 (g0 (some ⟨b, o, none⟩)).cs rfl _ HK6.out Tryd.underlying26 rfl size26 ?_) | ((with_reducible show wpList _ _ _ (Oper.mk _ (Op.load 26 _) _ _ _ _ :: _) _ _); refine wpList_load_bk_g 26 _ (by rfl) rfl w.heap.size 26 (g0 (some ⟨b, o, none⟩)).cs rfl _ HK6.out Tryd.underlying26 rfl size26 ?_) | fail)
  refine (cut_g0 b o _ (range_below HR.out HB6.out)).mono ?_
  rintro en w7 ⟨rfl, hb⟩
  have HK7 := Lib.hid (HK6.out.below hb HK6.out.lt)
  have HB7 : Hid (Below w.heap.size w w7) := Lib.hid (HB6.out.trans (hb.mono HB6.out.size))
  clear hb
  go_wp2_with fail
  go_ret
  exact ⟨rfl, HB7.out⟩
end Go.Proofs.YtnkimfbdcghgpaaDoor
