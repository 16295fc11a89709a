/-
  DERIVED. The walks of the document's Deep.
-/
import Derived.Test.YtpbjnjnmbglllaaRefI
namespace Go.Proofs.Ytpbjnjnmbglllaa
open Go.RowKit Go.Sort


set_option maxHeartbeats 1600000 in
set_option maxRecDepth 100000 in
theorem ref9_one (l : SL) (hP : l.each (okI 9 SL.deepFrom)) : okI 9 SL.deepFrom l := by
  intro p c w hl hc
  obtain ⟨hlen, hl⟩ := hl
  have hlen' : l.len ≤ 300000000000 := by omega
  have HP := Lib.hid hP
  have HCN := Lib.hid hc
  clear hlen hP hc
  go_enter Try.func9, Try.ntmps9
  go_wp2_with fail
  go_loopw [3, 4] (fun v i wr => ∃ (k : Nat) (rest : SL) (n : Int), i = .int .i64 k ∧ v = .int .i64 n ∧ k ≤ l.len ∧ 0 ≤ n ∧ Hid (n + rest.count ≤ 10000) ∧ Hid (k + rest.len = l.len) ∧ Hid (SL.deepFrom l 0 = SL.deepFrom rest n) ∧
        Hid (rest = .nil ∨ ∃ b o, p = some ⟨b, o, none⟩ ∧ lies w rest b (o + k * 48)) ∧ Hid (rest.each (okI 9 SL.deepFrom)) ∧ Hid (Below w.heap.size w wr)) (fun _ i _ => l.len - (intOf i).toNat)
  case atStart => exact ⟨0, l, 0, rfl, rfl, Nat.zero_le _, Int.le_refl _, Lib.hid (by have := HCN.out; omega), Lib.hid (Nat.zero_add _), Lib.hid rfl, Lib.hid (by simpa using hl), HP, Lib.hid (Below.refl _ _)⟩
  case round =>
    obtain ⟨k, rest, n, rfl, rfl, hk, hn0, HN, HK, HG, HL, HQ, HB⟩ := hrel
    cases rest with
    | nil =>
      have hk' : l.len ≤ k := by have := HK.out; simp only [SL.len] at this; omega
      go_wp2_with fail
      go_ret
      exact ⟨ret_int (by rw [HG.out]; rfl), HB.out⟩
    | cons h tp tc t ep ec e r =>
      have hkl : k < l.len := by have := HK.out; simp only [SL.len] at this; omega
      obtain ⟨b, o, rfl, hrg, hhd, hts, hes, hrs⟩ := lies_head HL.out
      obtain ⟨hQt, hQe, hQr⟩ := HQ.out
      have hnc := HN.out
      simp only [SL.count] at hnc
      have ht0 := SL.deepFrom_bd t 0 (Int.le_refl _)
      have he0 := SL.deepFrom_bd e 0 (Int.le_refl _)
      have ht1 : 0 ≤ t.deepFrom 0 := by omega
      have he1 : 0 ≤ e.deepFrom 0 := by omega
      have ht2 : t.deepFrom 0 ≤ 10000 := by omega
      have he2 : e.deepFrom 0 ≤ 10000 := by omega
      have HX := Lib.hid ht0
      have HY := Lib.hid he0
      have HDR := Lib.hid (dg_ref h.kind t e n hn0)
      have HGS : Hid (SL.deepFrom l 0 = SL.deepFrom r (dg h.kind t.len e.len (t.deepFrom 0) (e.deepFrom 0) n)) := Lib.hid (by rw [HG.out]; rfl)
      have HNX : Hid (0 ≤ dg h.kind t.len e.len (t.deepFrom 0) (e.deepFrom 0) n ∧ dg h.kind t.len e.len (t.deepFrom 0) (e.deepFrom 0) n + r.count ≤ 10000) := Lib.hid (by unfold dg; split <;> omega)
      clear ht0 he0
      have HQR := Lib.hid hQr
      have HRS := Lib.hid hrs
      have hrw := rangeAt_below hrg HB.out
      have htw := sLies_below hts HB.out
      have hew := sLies_below hes HB.out
      clear hrg hhd hts hes hrs
      obtain ⟨cs, hcs⟩ : ∃ cs, cs = sarr h tp t.len tc ep e.len ec := ⟨_, rfl⟩
      have HRG : Hid (wr.rangeAt b (o + k * 48) cs.toList) := Lib.hid (by rw [hcs]; exact hrw)
      have HSZ : Hid ((Try.prog.info? 57).map (·.size) = some cs.size) := Lib.hid (by rw [hcs]; exact size57)
      have HZ : Hid (48 = cs.size) := Lib.hid (by rw [hcs]; rfl)
      have HON : Hid (cs.all (·.oneCell') = true) := Lib.hid (by rw [hcs]; exact scells_one _ _ _ _ _ _ _)
      have c0 : cs[0]? = some (.int .i64 h.kind) := by rw [hcs]; rfl
      have c45 : cs[45]? = some (.slice tp t.len tc) := by rw [hcs]; rfl
      have c46 : cs[46]? = some (.slice ep e.len ec) := by rw [hcs]; rfl
      clear hcs
      have HB1 : Hid (Below w.heap.size w (wr.alloc (.cells cs 57))) := Lib.hid (HB.out.alloc HB.out.size _)
      have hb0 : Below wr.heap.size wr (wr.alloc (.cells cs 57)) := (Below.refl _ _).alloc (Nat.le_refl _) _
      have CT : ∀ w', Below (wr.alloc (.cells cs 57)).heap.size (wr.alloc (.cells cs 57)) w' → Hid (Calls Try.prog 9 #[.slice tp t.len tc] w' fun en w'' => en = .returned (.int .i64 (t.deepFrom 0)) ∧ Below w'.heap.size w' w'') :=
        fun w' hb => Lib.hid (hQt _ _ _ (sLies_below (sLies_below htw hb0) hb) (by omega))
      have CE : ∀ w', Below (wr.alloc (.cells cs 57)).heap.size (wr.alloc (.cells cs 57)) w' → Hid (Calls Try.prog 9 #[.slice ep e.len ec] w' fun en w'' => en = .returned (.int .i64 (e.deepFrom 0)) ∧ Below w'.heap.size w' w'') :=
        fun w' hb => Lib.hid (hQe _ _ _ (sLies_below (sLies_below hew hb0) hb) (by omega))
      have HCT := Lib.hid CT
      have HCE := Lib.hid CE
      have d46 : ∀ w', Below (wr.alloc (.cells cs 57)).heap.size (wr.alloc (.cells cs 57)) w' → w'.cell? ⟨wr.heap.size, 46, none⟩ = some (.slice ep e.len ec) := fun w' hb =>
        (hb.cell (p := ⟨wr.heap.size, 46, none⟩) (by simp)).trans ((World.cell?_alloc_at _ _ _ _ rfl).trans c46)
      have D46 := Lib.hid d46
      clear CT CE hb0 d46
      generalize t.deepFrom 0 = dt at *
      generalize e.deepFrom 0 = de at *
      generalize h.kind = kind at *

      clear hrw htw hew hQt hQe hQr hnc
      have hcase : (blk kind = true ∧ (kind = 4 ∨ kind = 5 ∨ kind = 6)) ∨ (blk kind = false ∧ (kind == 4) = false ∧ (kind == 5) = false ∧ (kind == 6) = false) := by
        cases hb : blk kind
        · right; unfold blk at hb; simp only [Bool.or_eq_false_iff] at hb; exact ⟨rfl, hb.1.1, hb.1.2, hb.2⟩
        · left; unfold blk at hb; simp only [Bool.or_eq_true, beq_iff_eq] at hb; exact ⟨rfl, by omega⟩
      rcases hcase with ⟨hb, hk3⟩ | ⟨hb, n4, n5, n6⟩
      · have HDG : Hid (dg kind t.len e.len dt de n = max (max n (1 + dt)) (1 + de)) := Lib.hid (by rw [← HDR.out, hb]; rfl)
        clear hb HDR
        rcases hk3 with rfl | rfl | rfl
        all_goals
          go_wp2_with (first | ((with_reducible show wpList _ _ _ (Oper.mk (some 16) _ _ _ _ _ :: _) _ _); refine wpList_load_arr rfl 57 (.tmp 15) rfl b (o + k * 48) rfl cs _ HRG.out Try.underlying57 rfl HSZ.out ?_) | ((with_reducible show wpList _ _ _ (Oper.mk none (Op.store _ _ _) _ _ _ _ :: _) _ _); refine wpList_store_new rfl 57 (.tmp 5) (.tmp 16) rfl _ cs rfl rfl HSZ.out HZ.out HON.out ?_))
          refine ((HCT.out _ (Below.refl _ _)).out).mono ?_; rintro en w3 ⟨rfl, hb3⟩
          have e46 := D46.out w3 hb3
          have HB3 := Lib.hid hb3
          clear hb3
          go_wp2_with fail
          all_goals
            refine ((HCE.out _ HB3.out).out).mono ?_; rintro en w4 ⟨rfl, hb4⟩
            have HB4 : Hid (Below w.heap.size w w4) := Lib.hid ((HB1.out.trans (HB3.out.mono HB1.out.size)).trans (hb4.mono (Nat.le_trans HB1.out.size HB3.out.size)))
            clear hb4
            go_wp2_with fail
          all_goals
            go_roundw
            case rel =>
              exact ⟨k + 1, r, dg _ t.len e.len dt de n, by go_num, by congr 1; have := HDG.out; omega, by omega, HNX.out.1, Lib.hid HNX.out.2, Lib.hid (by have := HK.out; simp only [SL.len] at this; omega), HGS, HRS, HQR, HB4⟩
            case measure => simp [intOf]; omega
      · by_cases hT : 0 < t.len
        · have hT' : decide (0 < t.len) = true := by simpa using hT
          by_cases hE : 0 < e.len
          · have hE' : decide (0 < e.len) = true := by simpa using hE
            have HDG : Hid (dg kind t.len e.len dt de n = max (max n (1 + dt)) (1 + de)) := Lib.hid (by rw [← HDR.out, hb, hT', hE']; rfl)
            clear hb HDR
            go_wp2_with (first | ((with_reducible show wpList _ _ _ (Oper.mk (some 16) _ _ _ _ _ :: _) _ _); refine wpList_load_arr rfl 57 (.tmp 15) rfl b (o + k * 48) rfl cs _ HRG.out Try.underlying57 rfl HSZ.out ?_) | ((with_reducible show wpList _ _ _ (Oper.mk none (Op.store _ _ _) _ _ _ _ :: _) _ _); refine wpList_store_new rfl 57 (.tmp 5) (.tmp 16) rfl _ cs rfl rfl HSZ.out HZ.out HON.out ?_))
            refine ((HCT.out _ (Below.refl _ _)).out).mono ?_; rintro en w3 ⟨rfl, hb3⟩
            have e46 := D46.out w3 hb3
            have HB3 := Lib.hid hb3
            clear hb3
            go_wp2_with fail
            all_goals
              refine ((HCE.out _ HB3.out).out).mono ?_; rintro en w4 ⟨rfl, hb4⟩
              have HB4 : Hid (Below w.heap.size w w4) := Lib.hid ((HB1.out.trans (HB3.out.mono HB1.out.size)).trans (hb4.mono (Nat.le_trans HB1.out.size HB3.out.size)))
              clear hb4
              go_wp2_with fail
            all_goals
              go_roundw
              case rel =>
                exact ⟨k + 1, r, dg kind t.len e.len dt de n, by go_num, by congr 1; have := HDG.out; omega, by omega, HNX.out.1, Lib.hid HNX.out.2, Lib.hid (by have := HK.out; simp only [SL.len] at this; omega), HGS, HRS, HQR, HB4⟩
              case measure => simp [intOf]; omega
          · have hE' : decide (0 < e.len) = false := by simpa using hE
            have HDG : Hid (dg kind t.len e.len dt de n = max n (1 + dt)) := Lib.hid (by rw [← HDR.out, hb, hT', hE']; rfl)
            clear hb HDR hE
            go_wp2_with (first | ((with_reducible show wpList _ _ _ (Oper.mk (some 16) _ _ _ _ _ :: _) _ _); refine wpList_load_arr rfl 57 (.tmp 15) rfl b (o + k * 48) rfl cs _ HRG.out Try.underlying57 rfl HSZ.out ?_) | ((with_reducible show wpList _ _ _ (Oper.mk none (Op.store _ _ _) _ _ _ _ :: _) _ _); refine wpList_store_new rfl 57 (.tmp 5) (.tmp 16) rfl _ cs rfl rfl HSZ.out HZ.out HON.out ?_))
            refine ((HCT.out _ (Below.refl _ _)).out).mono ?_; rintro en w3 ⟨rfl, hb3⟩
            have e46 := D46.out w3 hb3
            have HB3 := Lib.hid hb3
            clear hb3
            go_wp2_with fail
            all_goals
              go_roundw
              case rel =>
                exact ⟨k + 1, r, dg kind t.len e.len dt de n, by go_num, by congr 1; have := HDG.out; omega, by omega, HNX.out.1, Lib.hid HNX.out.2, Lib.hid (by have := HK.out; simp only [SL.len] at this; omega), HGS, HRS, HQR, Lib.hid (HB1.out.trans (HB3.out.mono HB1.out.size))⟩
              case measure => simp [intOf]; omega
        · have hT' : decide (0 < t.len) = false := by simpa using hT
          by_cases hE : 0 < e.len
          · have hE' : decide (0 < e.len) = true := by simpa using hE
            have HDG : Hid (dg kind t.len e.len dt de n = max n (1 + de)) := Lib.hid (by rw [← HDR.out, hb, hT', hE']; rfl)
            clear hb HDR hT
            go_wp2_with (first | ((with_reducible show wpList _ _ _ (Oper.mk (some 16) _ _ _ _ _ :: _) _ _); refine wpList_load_arr rfl 57 (.tmp 15) rfl b (o + k * 48) rfl cs _ HRG.out Try.underlying57 rfl HSZ.out ?_) | ((with_reducible show wpList _ _ _ (Oper.mk none (Op.store _ _ _) _ _ _ _ :: _) _ _); refine wpList_store_new rfl 57 (.tmp 5) (.tmp 16) rfl _ cs rfl rfl HSZ.out HZ.out HON.out ?_))
            refine ((HCE.out _ (Below.refl _ _)).out).mono ?_; rintro en w4 ⟨rfl, hb4⟩
            have HB4 : Hid (Below w.heap.size w w4) := Lib.hid (HB1.out.trans (hb4.mono HB1.out.size))
            clear hb4
            go_wp2_with fail
            all_goals
              go_roundw
              case rel =>
                exact ⟨k + 1, r, dg kind t.len e.len dt de n, by go_num, by congr 1; have := HDG.out; omega, by omega, HNX.out.1, Lib.hid HNX.out.2, Lib.hid (by have := HK.out; simp only [SL.len] at this; omega), HGS, HRS, HQR, HB4⟩
              case measure => simp [intOf]; omega
          · have hE' : decide (0 < e.len) = false := by simpa using hE
            have HDG : Hid (dg kind t.len e.len dt de n = n) := Lib.hid (by rw [← HDR.out, hb, hT', hE']; rfl)
            clear hb HDR hT hE
            go_wp2_with (first | ((with_reducible show wpList _ _ _ (Oper.mk (some 16) _ _ _ _ _ :: _) _ _); refine wpList_load_arr rfl 57 (.tmp 15) rfl b (o + k * 48) rfl cs _ HRG.out Try.underlying57 rfl HSZ.out ?_) | ((with_reducible show wpList _ _ _ (Oper.mk none (Op.store _ _ _) _ _ _ _ :: _) _ _); refine wpList_store_new rfl 57 (.tmp 5) (.tmp 16) rfl _ cs rfl rfl HSZ.out HZ.out HON.out ?_))
            all_goals
              go_roundw
              case rel =>
                exact ⟨k + 1, r, dg kind t.len e.len dt de n, by go_num, by congr 1; have := HDG.out; omega, by omega, HNX.out.1, Lib.hid HNX.out.2, Lib.hid (by have := HK.out; simp only [SL.len] at this; omega), HGS, HRS, HQR, HB1⟩
              case measure => simp [intOf]; omega

theorem ref9_any (l : SL) : okI 9 SL.deepFrom l := (SL.all ref9_one l).1

end Go.Proofs.Ytpbjnjnmbglllaa
