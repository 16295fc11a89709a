/-
  DERIVED. The walks of the law TreePlain.
-/
import Derived.Test.YtpbjnjnmbglllaaRpG
import Derived.Test.YtpbjnjnmbglllaaSamL
import Derived.Test.YtpbjnjnmbglllaaBare
namespace Go.Proofs.Ytpbjnjnmbglllaa
open Go.RowKit Go.Sort

set_option maxHeartbeats 6400000 in
set_option maxRecDepth 100000 in
theorem plain_law (x : Pg) (w : World) (rx : pgLies w x) :
    Calls Try.prog 5 #[.agg #[.slice x.structs.p x.structs.l.length x.structs.cap, .slice x.globals.p x.globals.l.length x.globals.cap, .slice x.procs.p x.procs.l.length x.procs.cap]] w fun e w' => e = .returned (.bool true) ∧ Below w.heap.size w w' := by
  have HA : Hid (Below w.heap.size w (w.alloc (.cells #[.slice x.structs.p x.structs.l.length x.structs.cap, .slice x.globals.p x.globals.l.length x.globals.cap, .slice x.procs.p x.procs.l.length x.procs.cap] 34))) := Lib.hid ((Below.refl _ _).alloc (Nat.le_refl _) _)
  have HKP : Hid (Bk (w.alloc (.cells #[.slice x.structs.p x.structs.l.length x.structs.cap, .slice x.globals.p x.globals.l.length x.globals.cap, .slice x.procs.p x.procs.l.length x.procs.cap] 34)) w.heap.size 34 #[.slice x.structs.p x.structs.l.length x.structs.cap, .slice x.globals.p x.globals.l.length x.globals.cap, .slice x.procs.p x.procs.l.length x.procs.cap]) := Lib.hid (heap_alloc_new _ _)
  have HZA : Hid ((w.alloc (.cells #[.slice x.structs.p x.structs.l.length x.structs.cap, .slice x.globals.p x.globals.l.length x.globals.cap, .slice x.procs.p x.procs.l.length x.procs.cap] 34)).heap.size = w.heap.size + 1) := Lib.hid (by simp)
  have HX := Lib.hid rx
  have a0 : (w.alloc (.cells #[.slice x.structs.p x.structs.l.length x.structs.cap, .slice x.globals.p x.globals.l.length x.globals.cap, .slice x.procs.p x.procs.l.length x.procs.cap] 34)).cell? ⟨w.heap.size, 0, none⟩ = some (.slice x.structs.p x.structs.l.length x.structs.cap) := HKP.out.cell 0
  have a1 : (w.alloc (.cells #[.slice x.structs.p x.structs.l.length x.structs.cap, .slice x.globals.p x.globals.l.length x.globals.cap, .slice x.procs.p x.procs.l.length x.procs.cap] 34)).cell? ⟨w.heap.size, 1, none⟩ = some (.slice x.globals.p x.globals.l.length x.globals.cap) := HKP.out.cell 1
  have a2 : (w.alloc (.cells #[.slice x.structs.p x.structs.l.length x.structs.cap, .slice x.globals.p x.globals.l.length x.globals.cap, .slice x.procs.p x.procs.l.length x.procs.cap] 34)).cell? ⟨w.heap.size, 2, none⟩ = some (.slice x.procs.p x.procs.l.length x.procs.cap) := HKP.out.cell 2
  have HSM := Lib.hid (small_any x _ (pgLies_below rx HA.out))
  clear rx
  go_enter Try.func5, Try.ntmps5
  go_wp2_with fail
  refine (HSM.out).mono ?_; rintro en w1 ⟨b1, rfl, hb1⟩
  have HB1 := Lib.hid hb1
  have HK1 := Lib.hid (HKP.out.below hb1 (by rw [HZA.out]; omega))
  have HW1 : Hid (Below w.heap.size w w1) := Lib.hid (HA.out.trans (hb1.mono HA.out.size))
  clear hb1 a0 a1 a2
  generalize w.alloc (.cells #[.slice x.structs.p x.structs.l.length x.structs.cap, .slice x.globals.p x.globals.l.length x.globals.cap, .slice x.procs.p x.procs.l.length x.procs.cap] 34) = wA at HA HKP HZA HSM HB1
  cases b1
  · go_wp2_with fail
    refine (lives_any _).mono ?_; rintro en wz ⟨rfl, hbz⟩
    have HBZ : Hid (Below w.heap.size w wz) := Lib.hid (HW1.out.trans (hbz.mono HW1.out.size))
    clear hbz
    go_wp2_with fail
    go_ret
    exact ⟨rfl, HBZ.out⟩
  · have c0 := HK1.out.cell 0
    have c1 := HK1.out.cell 1
    have c2 := HK1.out.cell 2
    have HP := Lib.hid (plain_any x w1 (pgLies_below HX.out HW1.out))
    go_wp2_with fail
    refine (HP.out).mono ?_; rintro en w2 ⟨y, rfl, h1, h2, h3, h4⟩
    have Y1 := Lib.hid h1; have Y2 := Lib.hid h2; have Y3 : Hid (pgLies w2 y) := Lib.hid (pgLies_ext (Ext.mask _ _) h3); have Y4 := Lib.hid h4
    have HK2 := Lib.hid (HK1.out.below h4 (by have := HB1.out.size; rw [HZA.out] at this; omega))
    have HK2A : Hid (Bk (w2.alloc (.cells #[.slice y.structs.p y.structs.l.length y.structs.cap, .slice y.globals.p y.globals.l.length y.globals.cap, .slice y.procs.p y.procs.l.length y.procs.cap] 34)) w.heap.size 34 #[.slice x.structs.p x.structs.l.length x.structs.cap, .slice x.globals.p x.globals.l.length x.globals.cap, .slice x.procs.p x.procs.l.length x.procs.cap]) := Lib.hid ((heap_alloc_old _ _ (Nat.lt_of_lt_of_le (by rw [HZA.out]; omega) (Nat.le_trans HB1.out.size h4.size))).trans HK2.out)
    have HKQ : Hid (Bk (w2.alloc (.cells #[.slice y.structs.p y.structs.l.length y.structs.cap, .slice y.globals.p y.globals.l.length y.globals.cap, .slice y.procs.p y.procs.l.length y.procs.cap] 34)) w2.heap.size 34 #[.slice y.structs.p y.structs.l.length y.structs.cap, .slice y.globals.p y.globals.l.length y.globals.cap, .slice y.procs.p y.procs.l.length y.procs.cap]) := Lib.hid (heap_alloc_new _ _)
    have HN2 : Hid (Below w2.heap.size w2 (w2.alloc (.cells #[.slice y.structs.p y.structs.l.length y.structs.cap, .slice y.globals.p y.globals.l.length y.globals.cap, .slice y.procs.p y.procs.l.length y.procs.cap] 34))) := Lib.hid ((Below.refl _ _).alloc (Nat.le_refl _) _)
    have HZ2 : Hid ((w2.alloc (.cells #[.slice y.structs.p y.structs.l.length y.structs.cap, .slice y.globals.p y.globals.l.length y.globals.cap, .slice y.procs.p y.procs.l.length y.procs.cap] 34)).heap.size = w2.heap.size + 1) := Lib.hid (by simp)
    have HW2 : Hid (Below w.heap.size w (w2.alloc (.cells #[.slice y.structs.p y.structs.l.length y.structs.cap, .slice y.globals.p y.globals.l.length y.globals.cap, .slice y.procs.p y.procs.l.length y.procs.cap] 34))) := Lib.hid (HW1.out.trans ((h4.trans (HN2.out.mono h4.size)).mono HW1.out.size))
    clear h1 h2 h3 h4 c0 c1 c2
    have d0 := HK2A.out.cell 0
    have d1 := HK2A.out.cell 1
    have d2 := HK2A.out.cell 2
    have HR := Lib.hid (refPlain_any x _ (pgLies_below HX.out HW2.out))
    go_wp2_with fail
    refine (HR.out).mono ?_; rintro en w3 ⟨z, rfl, h1, h2, h3, h4⟩
    have Z1 := Lib.hid h1; have Z3 : Hid (pgLies w3 z) := Lib.hid (pgLies_ext (Ext.mask _ _) h3)
    have HLT : Hid (w.heap.size < w2.heap.size) := Lib.hid (Nat.lt_of_lt_of_le (by rw [HZA.out]; omega) (Nat.le_trans HB1.out.size Y4.out.size))
    have HK3 := Lib.hid (HK2A.out.below h4 (by have := HLT.out; rw [HZ2.out]; omega))
    have HQ3 := Lib.hid (HKQ.out.below h4 (by rw [HZ2.out]; omega))
    have HY3 : Hid (pgLies w3 y) := Lib.hid (pgLies_below (pgLies_below Y3.out HN2.out) h4)
    have HW3 := Lib.hid (HW2.out.trans (h4.mono HW2.out.size))
    have HLS : Hid (w2.heap.size < w3.heap.size) := Lib.hid (by have := h4.size; rw [HZ2.out] at this; omega)
    have HKB : Hid (Bk (w3.alloc (.cells #[.slice z.structs.p z.structs.l.length z.structs.cap, .slice z.globals.p z.globals.l.length z.globals.cap, .slice z.procs.p z.procs.l.length z.procs.cap] 34)) w.heap.size 34 #[.slice x.structs.p x.structs.l.length x.structs.cap, .slice x.globals.p x.globals.l.length x.globals.cap, .slice x.procs.p x.procs.l.length x.procs.cap]) := Lib.hid ((heap_alloc_old _ _ (Nat.lt_trans HLT.out HLS.out)).trans HK3.out)
    have HQB : Hid (Bk (w3.alloc (.cells #[.slice z.structs.p z.structs.l.length z.structs.cap, .slice z.globals.p z.globals.l.length z.globals.cap, .slice z.procs.p z.procs.l.length z.procs.cap] 34)) w2.heap.size 34 #[.slice y.structs.p y.structs.l.length y.structs.cap, .slice y.globals.p y.globals.l.length y.globals.cap, .slice y.procs.p y.procs.l.length y.procs.cap]) := Lib.hid ((heap_alloc_old _ _ HLS.out).trans HQ3.out)
    have HVB : Hid (Bk (w3.alloc (.cells #[.slice z.structs.p z.structs.l.length z.structs.cap, .slice z.globals.p z.globals.l.length z.globals.cap, .slice z.procs.p z.procs.l.length z.procs.cap] 34)) w3.heap.size 34 #[.slice z.structs.p z.structs.l.length z.structs.cap, .slice z.globals.p z.globals.l.length z.globals.cap, .slice z.procs.p z.procs.l.length z.procs.cap]) := Lib.hid (heap_alloc_new _ _)
    have HN3 : Hid (Below w3.heap.size w3 (w3.alloc (.cells #[.slice z.structs.p z.structs.l.length z.structs.cap, .slice z.globals.p z.globals.l.length z.globals.cap, .slice z.procs.p z.procs.l.length z.procs.cap] 34))) := Lib.hid ((Below.refl _ _).alloc (Nat.le_refl _) _)
    have HZ3 : Hid ((w3.alloc (.cells #[.slice z.structs.p z.structs.l.length z.structs.cap, .slice z.globals.p z.globals.l.length z.globals.cap, .slice z.procs.p z.procs.l.length z.procs.cap] 34)).heap.size = w3.heap.size + 1) := Lib.hid (by simp)
    clear h1 h2 h3 h4 d0 d1 d2 HK2A HKQ HQ3 HK3
    go_upto_region 5 with fail
    obtain ⟨T, hT⟩ : ∃ T, T = w2.heap.size := ⟨_, rfl⟩
    obtain ⟨V, hV⟩ : ∃ V, V = w3.heap.size := ⟨_, rfl⟩
    rw [← hT] at HQB HLS HLT ⊢
    rw [← hV] at HVB HZ3 HLS ⊢
    have HYB := Lib.hid (pgLies_below HY3.out HN3.out)
    have HZB := Lib.hid (pgLies_below Z3.out HN3.out)
    have HWB := Lib.hid (HW3.out.trans (HN3.out.mono HW3.out.size))
    have HTT := Lib.hid hT; have HVV := Lib.hid hV
    clear hT hV
    generalize w3.alloc (.cells #[.slice z.structs.p z.structs.l.length z.structs.cap, .slice z.globals.p z.globals.l.length z.globals.cap, .slice z.procs.p z.procs.l.length z.procs.cap] 34) = wB at HKB HQB HVB HN3 HZ3 HYB HZB HWB ⊢
    have HD : Hid (∀ w', Below wB.heap.size wB w' → w'.cell? ⟨w.heap.size, 0, none⟩ = some (.slice x.structs.p x.structs.l.length x.structs.cap) ∧ w'.cell? ⟨w.heap.size, 1, none⟩ = some (.slice x.globals.p x.globals.l.length x.globals.cap) ∧ w'.cell? ⟨w.heap.size, 2, none⟩ = some (.slice x.procs.p x.procs.l.length x.procs.cap) ∧ w'.cell? ⟨T, 0, none⟩ = some (.slice y.structs.p y.structs.l.length y.structs.cap) ∧ w'.cell? ⟨T, 1, none⟩ = some (.slice y.globals.p y.globals.l.length y.globals.cap) ∧ w'.cell? ⟨T, 2, none⟩ = some (.slice y.procs.p y.procs.l.length y.procs.cap) ∧ w'.cell? ⟨V, 0, none⟩ = some (.slice z.structs.p z.structs.l.length z.structs.cap) ∧ w'.cell? ⟨V, 1, none⟩ = some (.slice z.globals.p z.globals.l.length z.globals.cap) ∧ w'.cell? ⟨V, 2, none⟩ = some (.slice z.procs.p z.procs.l.length z.procs.cap)) := Lib.hid (fun w' hb => by
      have h1 := HKB.out.below hb (by have := HLT.out; have := HLS.out; rw [HZ3.out]; omega)
      have h2 := HQB.out.below hb (by have := HLS.out; rw [HZ3.out]; omega)
      have h3 := HVB.out.below hb (by rw [HZ3.out]; omega)
      exact ⟨h1.cell 0, h1.cell 1, h1.cell 2, h2.cell 0, h2.cell 1, h2.cell 2, h3.cell 0, h3.cell 1, h3.cell 2⟩)
    have HXB := Lib.hid (pgLies_below HX.out HWB.out)
    have HS1 : Hid (∀ w', Below wB.heap.size wB w' → Calls Try.prog 19 #[.agg #[.slice y.structs.p y.structs.l.length y.structs.cap, .slice y.globals.p y.globals.l.length y.globals.cap, .slice y.procs.p y.procs.l.length y.procs.cap], .agg #[.slice z.structs.p z.structs.l.length z.structs.cap, .slice z.globals.p z.globals.l.length z.globals.cap, .slice z.procs.p z.procs.l.length z.procs.cap]] w' fun en w'' => en = .returned (.bool true) ∧ Below w'.heap.size w' w'') := Lib.hid (fun w' hb => (refProgram_any y z w' (pgLies_below HYB.out hb) (pgLies_below HZB.out hb)).mono fun en w'' ⟨h1, h2⟩ => ⟨by rw [h1, samePg_of (Y1.out.trans Z1.out.symm)], h2⟩)
    have HS2 : Hid (∀ w', Below wB.heap.size wB w' → Calls Try.prog 18 #[.agg #[.slice x.structs.p x.structs.l.length x.structs.cap, .slice x.globals.p x.globals.l.length x.globals.cap, .slice x.procs.p x.procs.l.length x.procs.cap], .agg #[.slice y.structs.p y.structs.l.length y.structs.cap, .slice y.globals.p y.globals.l.length y.globals.cap, .slice y.procs.p y.procs.l.length y.procs.cap]] w' fun en w'' => en = .returned (.bool true) ∧ Below w'.heap.size w' w'') := Lib.hid (fun w' hb => (programS_any x y w' (pgLies_below HXB.out hb) (pgLies_below HYB.out hb)).mono fun en w'' ⟨h1, h2⟩ => ⟨by rw [h1, samePg_of Y1.out.symm], h2⟩)
    have HS3 : Hid (∀ w', Below wB.heap.size wB w' → Calls Try.prog 22 #[.agg #[.slice y.structs.p y.structs.l.length y.structs.cap, .slice y.globals.p y.globals.l.length y.globals.cap, .slice y.procs.p y.procs.l.length y.procs.cap]] w' fun en w'' => ∃ u : Pg, en = .returned (.agg #[.slice u.structs.p u.structs.l.length u.structs.cap, .slice u.globals.p u.globals.l.length u.globals.cap, .slice u.procs.p u.procs.l.length u.procs.cap]) ∧ u.er = y.er ∧ pgLies w'' u ∧ Below w'.heap.size w' w'') := Lib.hid (fun w' hb => (plain_any y w' (pgLies_below HYB.out hb)).mono fun en w'' ⟨u, h1, h2, _, h4, h5⟩ => ⟨u, h1, h2, pgLies_ext (Ext.mask _ _) h4, h5⟩)
    have HBD : Hid (Below wB.heap.size wB wB.drew) := Lib.hid (below_drew (Below.refl _ _))
    go_region_held3 (fun w' => w'.cell? ⟨w.heap.size, 0, none⟩ = some (.slice x.structs.p x.structs.l.length x.structs.cap) ∧ w'.cell? ⟨w.heap.size, 1, none⟩ = some (.slice x.globals.p x.globals.l.length x.globals.cap) ∧ w'.cell? ⟨w.heap.size, 2, none⟩ = some (.slice x.procs.p x.procs.l.length x.procs.cap) ∧ w'.cell? ⟨T, 0, none⟩ = some (.slice y.structs.p y.structs.l.length y.structs.cap) ∧ w'.cell? ⟨T, 1, none⟩ = some (.slice y.globals.p y.globals.l.length y.globals.cap) ∧ w'.cell? ⟨T, 2, none⟩ = some (.slice y.procs.p y.procs.l.length y.procs.cap) ∧ w'.cell? ⟨V, 0, none⟩ = some (.slice z.structs.p z.structs.l.length z.structs.cap) ∧ w'.cell? ⟨V, 1, none⟩ = some (.slice z.globals.p z.globals.l.length z.globals.cap) ∧ w'.cell? ⟨V, 2, none⟩ = some (.slice z.procs.p z.procs.l.length z.procs.cap)) (first | with_reducible exact HD.out _ HB7.out | with_reducible exact HD.out _ HB6.out | with_reducible exact HD.out _ HB5.out | with_reducible exact HD.out _ HB4.out | with_reducible exact HD.out _ HBD.out | fail)
      ((first
        | (go_at_call 19; (with_reducible refine (HS1.out _ HBD.out).mono ?_); rintro en w4 ⟨rfl, h4⟩; have HB4 := Lib.hid (HBD.out.trans (h4.mono HBD.out.size)); clear h4)
        | (go_at_call 18; (with_reducible refine (HS2.out _ HB4.out).mono ?_); rintro en w5 ⟨rfl, h5⟩; have HB5 := Lib.hid (HB4.out.trans (h5.mono HB4.out.size)); clear h5)
        | (go_at_call 22; (with_reducible refine (HS3.out _ HB5.out).mono ?_); rintro en w6 ⟨u, rfl, u1, u2, h6⟩; have U2 := Lib.hid u2; have HB6 := Lib.hid (HB5.out.trans (h6.mono HB5.out.size)); have HS4 : Hid (Calls Try.prog 18 #[.agg #[.slice u.structs.p u.structs.l.length u.structs.cap, .slice u.globals.p u.globals.l.length u.globals.cap, .slice u.procs.p u.procs.l.length u.procs.cap], .agg #[.slice y.structs.p y.structs.l.length y.structs.cap, .slice y.globals.p y.globals.l.length y.globals.cap, .slice y.procs.p y.procs.l.length y.procs.cap]] w6 fun en w'' => en = .returned (.bool true) ∧ Below w6.heap.size w6 w'') := Lib.hid ((programS_any u y w6 u2 (pgLies_below HYB.out HB6.out)).mono fun en w'' ⟨g1, g2⟩ => ⟨by rw [g1, samePg_of u1], g2⟩); clear u1 u2 h6)
        | (go_at_call 18; (with_reducible refine (HS4.out).mono ?_); rintro en w7 ⟨rfl, h7⟩; have HB7 := Lib.hid (HB6.out.trans (h7.mono HB6.out.size)); clear h7)))
    -- behind the region
    go_wp2_with fail
    go_loopw [5] (fun i wr => ∃ k : Nat, i = .int .i64 k ∧ k ≤ y.procs.l.length ∧ Hid (Below wB.heap.size wB wr)) (fun i _ => y.procs.l.length - (intOf i).toNat)
    case atStart => exact ⟨0, rfl, Nat.zero_le _, HB7⟩
    case round =>
      obtain ⟨k, rfl, hk, HB⟩ := hrel
      have hpl : y.procs.l.length ≤ 6000000000000 := by
        have h : y.procs.l.length * 104 ≤ 140737488351232 := HYB.out.2.2.1
        omega
      obtain ⟨_, _, _, q0, q1, q2, _, _, _⟩ := HD.out _ HB.out
      by_cases hkl : k < y.procs.l.length
      · obtain ⟨b, o, hp, hx⟩ : ∃ b o, y.procs.p = some ⟨b, o, none⟩ ∧ ∀ k x, y.procs.l[k]? = some x → wB.rangeAt b (o + k * 6) (Pc.cells x) ∧ pcLies wB x := by
          rcases HYB.out.2.2.2 with h | h
          · rw [h] at hkl; simp at hkl
          · exact h
        have hx1 := hx k y.procs.l[k] (List.getElem?_eq_getElem hkl)
        have hfl := Y2.out.2.2 y.procs.l[k] (List.getElem_mem _)
        generalize y.procs.l[k] = xe at hx1 hfl
        obtain ⟨nm, pos, fin, params, locs, bp, bc, body⟩ := xe
        obtain ⟨f1, f2, _, _, f3⟩ := hfl
        simp only at f1 f2 f3
        subst f1; subst f2
        have hr := rangeAt_below hx1.1 HB.out
        have HCB := Lib.hid (bare_any body bp bc wr (sLies_below hx1.2.2.2 HB.out) f3)
        have e1 := cell_at hr 1 _ rfl
        have e2 := cell_at hr 2 _ rfl
        have e5 := cell_at hr 5 _ rfl
        have hk0 : (0 : Int) ≤ (k : Int) := Int.natCast_nonneg _
        have hk1 : (k : Int) < (y.procs.l.length : Int) := by omega
        rw [hp] at q2
        clear hx hx1 hr f3 q0 q1 hp
        go_wp2_with fail
        refine (HCB.out).mono ?_; rintro en w9 ⟨rfl, hb9⟩
        have HBQ := Lib.hid (HB.out.trans (hb9.mono HB.out.size))
        clear hb9 e1 e2 e5 q2
        go_wp2_with fail
        go_roundw
        case rel => exact ⟨k + 1, by go_num, by omega, HBQ⟩
        case measure => simp [intOf]; omega
      · clear q0 q1
        go_wp2_with fail
        clear q2
        obtain ⟨wo, rfl⟩ : ∃ wo : World, wo = wr := ⟨_, rfl⟩
        go_loopw [6] (fun i wr => ∃ k : Nat, i = .int .i64 k ∧ k ≤ y.globals.l.length ∧ Hid (Below wB.heap.size wB wr)) (fun i _ => y.globals.l.length - (intOf i).toNat)
        case atStart => exact ⟨0, rfl, Nat.zero_le _, HB⟩
        case round =>
          obtain ⟨k, rfl, hk, HB⟩ := hrel
          have hgl : y.globals.l.length ≤ 6000000000000 := by
            have h : y.globals.l.length * 40 ≤ 140737488351232 := HYB.out.2.1.1
            omega
          obtain ⟨_, _, _, q0, q1, q2, _, _, _⟩ := HD.out _ HB.out
          by_cases hkl : k < y.globals.l.length
          · obtain ⟨b, o, hp, hx⟩ : ∃ b o, y.globals.p = some ⟨b, o, none⟩ ∧ ∀ k x, y.globals.l[k]? = some x → wB.rangeAt b (o + k * 3) (Dc.cells x) ∧ True := by
              rcases HYB.out.2.1.2 with h | h
              · rw [h] at hkl; simp at hkl
              · exact h
            have hx1 := hx k y.globals.l[k] (List.getElem?_eq_getElem hkl)
            have hfl : (y.globals.l[k]).pos = 0 := Y2.out.2.1 y.globals.l[k] (List.getElem_mem _)
            generalize y.globals.l[k] = xe at hx1 hfl
            obtain ⟨ty, nm, pos⟩ := xe
            simp only at hfl
            subst hfl
            have e2 := cell_at (rangeAt_below hx1.1 HB.out) 2 _ rfl
            have hk0 : (0 : Int) ≤ (k : Int) := Int.natCast_nonneg _
            have hk1 : (k : Int) < (y.globals.l.length : Int) := by omega
            rw [hp] at q1
            clear hx hx1 q0 q2 hp
            go_wp2_with fail
            go_roundw
            case rel => exact ⟨k + 1, by go_num, by omega, HB⟩
            case measure => simp [intOf]; omega
          · clear q0 q2
            go_wp2_with fail
            refine (lives_any _).mono ?_; rintro en wz ⟨rfl, hbz⟩
            have HBZ : Hid (Below w.heap.size w wz) := Lib.hid (HWB.out.trans ((HB.out.trans (hbz.mono HB.out.size)).mono HWB.out.size))
            clear hbz q1
            go_wp2_with fail
            go_ret
            exact ⟨rfl, HBZ.out⟩

end Go.Proofs.Ytpbjnjnmbglllaa
