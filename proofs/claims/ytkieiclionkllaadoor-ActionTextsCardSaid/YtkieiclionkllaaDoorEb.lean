/-
  DERIVED. The walk of Parse.
-/
import Derived.Test.YtkieiclionkllaaDoorEa
namespace Go.Proofs.YtkieiclionkllaaDoor
open Go.RowKit Go.Sort
open Ac

namespace Ac
theorem isInt_small {n : Int} (h0 : -1 ≤ n) (h1 : n ≤ 100) : isInt n := ⟨by omega, by omega⟩
theorem operandOf_int (l : List UInt8) : isInt (operandOf l).v ∧ isInt (operandOf l).n := by
  unfold operandOf
  split
  · exact ⟨numberOf_int l, (isInt_small (by decide) (by decide) : isInt 0)⟩
  · exact ⟨(isInt_small (by decide) (by decide) : isInt (-1)), atoiN_int l⟩
theorem setNum_ok {a : Acn} (h : a.ok) (p : Nat) {n : Int} (hn : isInt n) : (setNum p a n).ok := by
  obtain ⟨h1, h2, h3, h4, h5, h6, h7, h8, h9, h10, h11⟩ := h
  unfold setNum
  split <;> constructor <;> assumption
theorem sumN_int (l : List UInt8) : isInt (sumN l) := by unfold sumN; split <;> (try split) <;> exact isInt_small (by decide) (by decide)
theorem rd_ok {a : Acn} (h : a.ok) (p : Nat) (hp : p ≤ 13) (l : List UInt8) : (rd p (l, a)).2.ok := by
  have hc : p = 0 ∨ (1 ≤ p ∧ p ≤ 8) ∨ p = 9 ∨ p = 10 ∨ p = 11 ∨ p = 12 ∨ p = 13 := by omega
  rcases hc with rfl | h1 | rfl | rfl | rfl | rfl | rfl
  · exact h
  · rw [rd_numb p h1]; exact setNum_ok h p (numberOf_int _)
  · obtain ⟨h1, h2, h3, h4, h5, h6, h7, h8, h9, h10, h11⟩ := h
    exact ⟨h1, h2, h3, h4, h5, h6, h7, (operandOf_int _).1, (operandOf_int _).2, h10, h11⟩
  · obtain ⟨h1, h2, h3, h4, h5, h6, h7, h8, h9, h10, h11⟩ := h
    exact ⟨h1, h2, h3, h4, h5, h6, h7, h8, h9, (operandOf_int _).1, (operandOf_int _).2⟩
  · obtain ⟨h1, h2, h3, h4, h5, h6, h7, h8, h9, h10, h11⟩ := h
    rw [rd_more_eq]
    split
    · exact ⟨h1, h2, h3, h4, h5, h6, sumN_int _, h8, h9, h10, h11⟩
    · exact ⟨h1, h2, h3, h4, h5, h6, sumN_int _, h8, h9, (operandOf_int _).1, (operandOf_int _).2⟩
  · obtain ⟨h1, h2, h3, h4, h5, h6, h7, h8, h9, h10, h11⟩ := h
    simp only [rd]
    split
    · exact ⟨h1, h2, h3, h4, h5, h6, (isInt_small (by decide) (by decide) : isInt 1), h8, h9, h10, h11⟩
    · exact ⟨h1, h2, h3, h4, h5, h6, h7, h8, h9, h10, h11⟩
  · obtain ⟨h1, h2, h3, h4, h5, h6, h7, h8, h9, h10, h11⟩ := h
    exact ⟨h1, h2, h3, h4, h5, h6, h7, h8, h9, h10, h11⟩
theorem kind_ok (k : Nat) (h : k < 13) : ({ Acn.zero with kind := (k : Int) } : Acn).ok := by
  constructor <;> exact isInt_small (by simp [Acn.zero] <;> omega) (by simp [Acn.zero] <;> omega)
theorem kindOf_lt {l : List UInt8} {k : Nat} (h : kindOf l = some k) : k < 13 := by have := (kindGo_some l 13 0 k h).2.1; omega
end Ac
def PaPost (l : List UInt8) (e : Ending) : Prop := e = .returned (.tuple #[.agg ((parse l).getD Acn.zero).cs, .int .i64 (if (parse l).isSome then 0 else 13)])
theorem pa_none {l : List UInt8} (h : parse l = none) : PaPost l (.returned (.tuple #[.agg Acn.zero.cs, .int .i64 13])) := by unfold PaPost; rw [h]; rfl
theorem pa_some {l : List UInt8} {a : Acn} (h : parse l = some a) : PaPost l (.returned (.tuple #[.agg a.cs, .int .i64 0])) := by unfold PaPost; rw [h]; rfl
theorem size48 : (Tryd.prog.info? 48).map (·.size) = some 1 := by kernel_rfl

set_option maxHeartbeats 3200000 in
set_option maxRecDepth 100000 in
theorem parse_any (l : List UInt8) (hl : l.length ≤ 100000) (w : World) (hG : Gl w) : Calls Tryd.prog 16 #[.string (bt l)] w fun e w' => PaPost l e ∧ Below w.heap.size w w' := by
  obtain ⟨wA, hwA⟩ : ∃ wA : World, wA = w.alloc (.cells Acn.zero.cs 25) := ⟨_, rfl⟩
  have HBA : Hid (Below w.heap.size w wA) := Lib.hid (by rw [hwA]; exact (Below.refl _ _).alloc (Nat.le_refl _) _)
  have HKC : Hid (Bk wA w.heap.size 25 Acn.zero.cs) := Lib.hid (by rw [hwA]; exact heap_alloc_new _ _)
  have HLT : Hid (w.heap.size < wA.heap.size) := Lib.hid (by rw [hwA]; simp)
  have HG := Lib.hid hG
  have HS : Hid (11 ≤ w.heap.size) := Lib.hid hG.big
  have HL := Lib.hid hl
  clear hG hl
  go_enter Tryd.func16, Tryd.ntmps16
  go_upto_region 1 with fail
  have hwA' : w.alloc (.cells #[.int .i64 0, .int .i64 0, .int .i64 0, .int .i64 0, .int .i64 0, .int .i64 0, .int .i64 0, .int .i64 0, .int .i64 0, .int .i64 0, .int .i64 0, .bool false] 25) = wA := hwA.symm
  rw [hwA']
  clear hwA hwA'
  go_upto_region 2 with fail
  have HBB : Hid (Below wA.heap.size wA (wA.alloc (.cells #[.string (bt l)] 48))) := Lib.hid ((Below.refl _ _).alloc (Nat.le_refl _) _)
  have HKR : Hid (Bk (wA.alloc (.cells #[.string (bt l)] 48)) wA.heap.size 48 #[.string (bt l)]) := Lib.hid (heap_alloc_new _ _)
  generalize wA.alloc (.cells #[.string (bt l)] 48) = wB at HBB HKR ⊢
  have HGB : Hid (Gl wB) := Lib.hid ((HG.out.below HBA.out HS.out).below HBB.out (Nat.le_trans HS.out HBA.out.size))
  have CN := Lib.hid (next_any wA.heap.size l wB ⟨HKR.out, HL.out⟩ HGB.out)
  have HQ : Hid (∀ e w', NxPost wB wA.heap.size l e w' → e = .returned (.string (bt (cutAt l).1)) ∧ Rd w' wA.heap.size (cutAt l).2 ∧ Gl w' ∧ Below wA.heap.size wA w') := Lib.hid (fun e w' hn =>
    ⟨hn.1, hn.2.1, HGB.out.grown hn.2.2 (Nat.le_trans HS.out (Nat.le_of_lt HLT.out)), HBB.out.trans (below_of_grown hn.2.2 (Nat.le_refl _) HBB.out.size)⟩)
  have CK := Lib.hid (fun w => kindOf_any (cutAt l).1 w)
  have HPK : Hid (parse l = match kindOf (cutAt l).1 with | none => none | some k => if text (guess k l) = l then some (guess k l) else none) := Lib.hid rfl
  cases hk : kindOf (cutAt l).1 with
  | none =>
    have HP := Lib.hid (pa_none (show parse l = none by rw [HPK.out, hk]))
    rw [hk] at CK
    replace CK : Hid (∀ w, Gl w → Calls Tryd.prog 26 #[.string (bt (cutAt l).1)] w fun e w' => e = .returned (.tuple #[.int .i64 0, .bool false]) ∧ w = w') := CK
    clear hk HPK
    generalize bt (cutAt l).1 = t1 at *
    generalize bt l = t at *
    go_wp2_with (first
      | (go_at_call 27; refine CN.out.mono ?_; rintro e w1 hn; obtain ⟨rfl, hr, hg, hb⟩ := HQ.out _ _ hn; have HR1 := Lib.hid hr; have HG1 := Lib.hid hg; have HB1 := Lib.hid hb; clear hn hr hg hb)
      | (go_at_call 26; refine (CK.out _ HG1.out).mono ?_; rintro e w2 ⟨rfl, rfl⟩)
      | ((with_reducible show wpList _ _ _ (Oper.mk _ (Op.store 25 _ _) _ _ _ _ :: _) _ _); refine wpList_store_bk rfl 25 _ _ rfl w.heap.size 25 _ Acn.zero.cs rfl rfl (HKC.out.below HB1.out HLT.out) size25 rfl (cs_one _) ?_; intro w3 hk3 hg3; have HK3 := Lib.hid hk3; have HG3 := Lib.hid hg3; clear hk3 hg3))
    exact bodyPost_ret (results_row_tmp Tryd.results16 _ w3 w.heap.size 25 Acn.zero.cs (0, 0) _ _ rfl rfl HK3.out Tryd.underlying25 rfl size25) rfl ⟨HP.out, (HBA.out.trans (HB1.out.mono HBA.out.size)).trans (below_of_grown HG3.out (Nat.le_refl _) (Nat.le_trans HBA.out.size HB1.out.size))⟩
  | some k =>
    have HKL : Hid (k < 13) := Lib.hid (kindOf_lt hk)
    have HP : Hid (parse l = if text (guess k l) = l then some (guess k l) else none) := Lib.hid (by rw [HPK.out, hk])
    rw [hk] at CK
    replace CK : Hid (∀ w, Gl w → Calls Tryd.prog 26 #[.string (bt (cutAt l).1)] w fun e w' => e = .returned (.tuple #[.int .i64 (k : Int), .bool true]) ∧ w = w') := CK
    clear hk HPK
    have hk0 : (0 : Int) ≤ (k : Int) := Int.natCast_nonneg _
    have hk1 : (k : Int) < 13 := by have := HKL.out; omega
    obtain ⟨t1, ht1⟩ : ∃ t1, t1 = bt (cutAt l).1 := ⟨_, rfl⟩
    rw [← ht1] at CK HQ
    clear ht1
    obtain ⟨t, ht⟩ : ∃ t, t = bt l := ⟨_, rfl⟩
    rw [← ht]
    have HTT := Lib.hid ht
    clear ht
    go_upto_region 5 with (first
      | (go_at_call 27; refine CN.out.mono ?_; rintro e w1 hn; obtain ⟨rfl, hr, hg, hb⟩ := HQ.out _ _ hn; have HR1 := Lib.hid hr; have HG1 := Lib.hid hg; have HB1 := Lib.hid hb; clear hn hr hg hb)
      | (go_at_call 26; refine (CK.out _ HG1.out).mono ?_; rintro e w2 ⟨rfl, rfl⟩))
    go_upto_region 6 with (first
      | ((with_reducible show wpList _ _ _ (Oper.mk _ (Op.store 25 _ _) _ _ _ _ :: _) _ _); refine wpList_store_new rfl 25 _ _ rfl _ ({ Acn.zero with kind := (k : Int) } : Acn).cs rfl rfl size25 rfl (cs_one _) ?_))
    have HLA : Hid (w1.heap.size < (w1.alloc (.cells ({ Acn.zero with kind := (k : Int) } : Acn).cs 25)).heap.size) := Lib.hid (by simp)
    have HBM : Hid (Below w1.heap.size w1 (w1.alloc (.cells ({ Acn.zero with kind := (k : Int) } : Acn).cs 25))) := Lib.hid ((Below.refl _ _).alloc (Nat.le_refl _) _)
    have HKA : Hid (Bk (w1.alloc (.cells ({ Acn.zero with kind := (k : Int) } : Acn).cs 25)) w1.heap.size 25 ({ Acn.zero with kind := (k : Int) } : Acn).cs) := Lib.hid (heap_alloc_new _ _)
    generalize w1.alloc (.cells ({ Acn.zero with kind := (k : Int) } : Acn).cs 25) = w3 at HLA HBM HKA ⊢
    have HRW : Hid (wA.heap.size < w1.heap.size) := Lib.hid HR1.out.1.lt
    have HRE : Hid (Re wA.heap.size wA.heap.size w1.heap.size w3 (cutAt l).2 { Acn.zero with kind := (k : Int) }) := Lib.hid
      ⟨⟨HR1.out.1.below HBM.out HRW.out, HR1.out.2⟩, HKA.out, Nat.ne_of_gt HRW.out, Nat.le_refl _, Nat.le_of_lt HRW.out, Nat.le_trans HS.out (Nat.le_of_lt HLT.out), HG1.out.below HBM.out (Nat.le_trans HS.out (Nat.le_trans (Nat.le_of_lt HLT.out) (Nat.le_of_lt HRW.out)))⟩
    have HBX : Hid (Below wA.heap.size wA w3) := Lib.hid (HB1.out.trans (HBM.out.mono HB1.out.size))
    have HFR : Hid (w3.rangeAt 0 (k * 5) (fcs k).toList) := Lib.hid (form_row HRE.out.gl k HKL.out)
    have HSF : Hid (some 5 = some (fcs k).size) := Lib.hid (by rw [fcs_size k HKL.out])
    go_wp2_with (first
      | ((with_reducible show wpList _ _ _ (Oper.mk _ (Op.load 35 _) _ _ _ _ :: _) _ _); refine wpList_load_arr rfl 35 _ rfl 0 (k * 5) (by simp [Act.eval]) (fcs k) _ HFR.out Tryd.underlying35 rfl (size35.trans HSF.out) ?_))
    go_loopw [25] (fun i wr => ∃ (j : Nat) (l' : List UInt8) (r : Acn), j ≤ 5 ∧ i = .int .i64 j ∧ Hid (Re wA.heap.size wA.heap.size w1.heap.size wr l' r) ∧ Hid (Below wA.heap.size wA wr) ∧ Hid r.ok ∧ Hid ((rds ((formOf k).drop j) (l', r)).2 = guess k l)) (fun i _ => 5 - (intOf i).toNat)
    case atStart => exact ⟨0, _, _, Nat.zero_le _, rfl, HRE, HBX, Lib.hid (kind_ok k HKL.out), Lib.hid rfl⟩
    case round =>
      obtain ⟨j, l', r, hj, rfl, HK3, HBR, HOK, HGO⟩ := hrel
      by_cases hlt : j < 5
      · have hi := run_index35 (w := wr) (fcs k) j _ hlt (fcs_at k j HKL.out hlt)
        have hj1 : (j : Int) < 5 := by omega
        have HP5 : Hid ((formOf k).getD j 0 ≤ 13) := Lib.hid (form_get_le k j HKL.out hlt)
        have HD := Lib.hid (form_drop k j HKL.out hlt)
        generalize (formOf k).getD j 0 = p at *
        have CR := Lib.hid (read_any wA.heap.size wA.heap.size w1.heap.size p HP5.out l' r wr HK3.out)
        have HNX : Hid (∀ e w', RePost wA.heap.size wA.heap.size w1.heap.size wr p l' r e w' → e = .returned (.tuple #[]) ∧ Re wA.heap.size wA.heap.size w1.heap.size w' (rd p (l', r)).1 (rd p (l', r)).2 ∧ Below wA.heap.size wr w') := Lib.hid (fun e w' hh =>
          ⟨hh.1, ⟨hh.2.1, hh.2.2.1, HK3.out.ne, HK3.out.br, HK3.out.ba, HK3.out.b11, HK3.out.gl.below hh.2.2.2 HK3.out.b11⟩, hh.2.2.2⟩)
        have HO2 := Lib.hid (rd_ok HOK.out p HP5.out l')
        have HX : Hid ((rds ((formOf k).drop (j + 1)) ((rd p (l', r)).1, (rd p (l', r)).2)).2 = guess k l) := Lib.hid (by rw [← HGO.out, HD.out]; rfl)
        go_wp2_with (go_at_call 28; refine (CR.out).mono ?_; rintro e w4 hh; obtain ⟨rfl, hr4, hb4⟩ := HNX.out _ _ hh; have HR4 := Lib.hid hr4; have HB4 := Lib.hid hb4; clear hh hr4 hb4)
        go_roundw
        case rel => exact ⟨j + 1, _, _, by omega, by go_num, HR4, Lib.hid (HBR.out.trans HB4.out), HO2, HX⟩
        case measure => simp [intOf]; omega
      · obtain rfl : j = 5 := by omega
        have HE : Hid (r = guess k l) := Lib.hid (by
          rw [← HGO.out, List.drop_of_length_le (by have := form_len k HKL.out; omega)]; rfl)
        have CT := Lib.hid (text_any r HOK.out wr HK3.out.gl)
        have hq : ((bt (text r)).toList == t.toList) = decide (text r = l) := by rw [HTT.out, Lib.toList_data (bt l), bt_list]; exact bt_beq _ _
        have HKCW : Hid (∀ w', Below wr.heap.size wr w' → Bk w' w.heap.size 25 Acn.zero.cs ∧ Below w.heap.size w w') := Lib.hid (fun w' hb =>
          have h1 : Below wA.heap.size wA w' := HBR.out.trans (hb.mono HBR.out.size)
          ⟨HKC.out.below h1 HLT.out, HBA.out.trans (h1.mono HBA.out.size)⟩)
        have HKX : Hid (∀ w', Below wr.heap.size wr w' → Bk w' w1.heap.size 25 r.cs) := Lib.hid (fun w' hb => HK3.out.a.below hb HK3.out.a.lt)
        by_cases he : text r = l
        · have HPP : Hid (PaPost l (.returned (.tuple #[.agg r.cs, .int .i64 0]))) := Lib.hid (pa_some (by rw [HP.out, ← HE.out, if_pos he]))
          rw [decide_eq_true he] at hq
          clear he
          generalize bt (text r) = tr at *
          go_wp2_with (first
            | (go_at_call 7; refine CT.out.mono ?_; rintro e w5 ⟨rfl, hb⟩; have HB5 := Lib.hid hb; have HC5 := Lib.hid (HKCW.out _ hb); have HX5 := Lib.hid (HKX.out _ hb); clear hb)
            | ((with_reducible show wpList _ _ _ (Oper.mk (some 31) (Op.load 25 _) _ _ _ _ :: _) _ _); refine wpList_load_bk rfl 25 _ rfl w1.heap.size 25 r.cs rfl _ HK3.out.a Tryd.underlying25 rfl size25 ?_)
            | ((with_reducible show wpList _ _ _ (Oper.mk (some 36) (Op.load 25 _) _ _ _ _ :: _) _ _); refine wpList_load_bk rfl 25 _ rfl w1.heap.size 25 r.cs rfl _ HX5.out Tryd.underlying25 rfl size25 ?_)
            | ((with_reducible show wpList _ _ _ (Oper.mk _ (Op.store 25 _ _) _ _ _ _ :: _) _ _); refine wpList_store_bk rfl 25 _ _ rfl w.heap.size 25 _ r.cs rfl rfl HC5.out.1 size25 rfl (cs_one _) ?_; intro w6 hk6 hg6; have HK6 := Lib.hid hk6; have HG6 := Lib.hid hg6; clear hk6 hg6))
          exact bodyPost_ret (results_row_tmp Tryd.results16 _ w6 w.heap.size 25 r.cs (0, 0) _ _ rfl rfl HK6.out Tryd.underlying25 rfl size25) rfl ⟨HPP.out, HC5.out.2.trans (below_of_grown HG6.out (Nat.le_refl _) HC5.out.2.size)⟩
        · have HPP : Hid (PaPost l (.returned (.tuple #[.agg Acn.zero.cs, .int .i64 13]))) := Lib.hid (pa_none (by rw [HP.out, ← HE.out, if_neg he]))
          rw [decide_eq_false he] at hq
          clear he
          generalize bt (text r) = tr at *
          go_wp2_with (first
            | (go_at_call 7; refine CT.out.mono ?_; rintro e w5 ⟨rfl, hb⟩; have HB5 := Lib.hid hb; have HC5 := Lib.hid (HKCW.out _ hb); have HX5 := Lib.hid (HKX.out _ hb); clear hb)
            | ((with_reducible show wpList _ _ _ (Oper.mk (some 31) (Op.load 25 _) _ _ _ _ :: _) _ _); refine wpList_load_bk rfl 25 _ rfl w1.heap.size 25 r.cs rfl _ HK3.out.a Tryd.underlying25 rfl size25 ?_)
            | ((with_reducible show wpList _ _ _ (Oper.mk _ (Op.store 25 _ _) _ _ _ _ :: _) _ _); refine wpList_store_bk rfl 25 _ _ rfl w.heap.size 25 _ Acn.zero.cs rfl rfl HC5.out.1 size25 rfl (cs_one _) ?_; intro w6 hk6 hg6; have HK6 := Lib.hid hk6; have HG6 := Lib.hid hg6; clear hk6 hg6))
          exact bodyPost_ret (results_row_tmp Tryd.results16 _ w6 w.heap.size 25 Acn.zero.cs (0, 0) _ _ rfl rfl HK6.out Tryd.underlying25 rfl size25) rfl ⟨HPP.out, HC5.out.2.trans (below_of_grown HG6.out (Nat.le_refl _) HC5.out.2.size)⟩
end Go.Proofs.YtkieiclionkllaaDoor
