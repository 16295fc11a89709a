/-
  DERIVED. The walk of Text.
-/
import Derived.Test.YtnkimfbdcghgpaaDoorCc
namespace Go.Proofs.YtnkimfbdcghgpaaDoor
open Go.RowKit Go.Sort
open Ac

theorem txts_take (k j : Nat) (hk : k < 13) (hj : j < 5) (a : Acn) : txts ((formOf k).take (j + 1)) a = txts ((formOf k).take j) a ++ txt ((formOf k).getD j 0) a := by
  have hl := form_len k hk
  rw [List.take_succ_eq_append_getElem (by omega)]
  have happ : ∀ (l : List Nat) (p : Nat), txts (l ++ [p]) a = txts l a ++ txt p a := by
    intro l p
    induction l with
    | nil => simp [txts]
    | cons q l ih => simp [txts, ih]
  rw [happ]
  congr 2
  simp [List.getElem?_eq_getElem (show j < (formOf k).length by omega)]
set_option maxHeartbeats 1600000 in
set_option maxRecDepth 100000 in
theorem text_yes (k : Nat) (hk : k < 13) (a : Acn) (ha : a.kind = k) (ho : a.ok) (hr : rights a = true) (w : World) (hG : Gl w) :
    Calls Tryd.prog 25 #[.agg a.cs] w fun e w' => e = .returned (.string (bt (text a))) ∧ Below w.heap.size w w' := by
  have hpo := parts_ok a ho hr
  have e : a.kind.toNat = k := by omega
  rw [e] at hpo
  have HR : Hid (text a = wordOf k ++ txts (formOf k) a) := Lib.hid (by unfold text; rw [if_pos hr, e])
  have HB0 : Hid (Bk (w.alloc (.cells a.cs 32)) w.heap.size 32 a.cs) := Lib.hid (heap_alloc_new _ _)
  have HBA : Hid (Below w.heap.size w (w.alloc (.cells a.cs 32))) := Lib.hid ((Below.refl _ _).alloc (Nat.le_refl _) _)
  have HG : Hid (Gl w) := Lib.hid hG
  have HS : Hid (8 ≤ w.heap.size) := Lib.hid hG.big
  have hk0 : (0 : Int) ≤ (k : Int) := Int.natCast_nonneg _
  have hk1 : (k : Int) < 13 := by omega
  have HL1 : Hid (w.heap.size < (w.alloc (.cells a.cs 32)).heap.size) := Lib.hid (by simp)
  have HK := Lib.hid ha
  have HRI := Lib.hid hr
  have HPO := Lib.hid hpo
  clear hG ha ho hr hpo e
  go_enter Tryd.func25, Tryd.ntmps25
  go_upto_region 1 with fail
  generalize w.alloc (.cells a.cs 32) = w1 at HB0 HBA HL1 ⊢
  have HC := Lib.hid (right_any a w1 (HG.out.below HBA.out HS.out))
  rw [HRI.out] at HC
  go_upto_region 3 with (first
    | ((with_reducible show wpList _ _ _ (Oper.mk _ (Op.load 32 _) _ _ _ _ :: _) _ _); refine wpList_load_bk rfl 32 _ rfl w.heap.size 32 a.cs rfl _ HB0.out Tryd.underlying32 rfl size25 ?_)
    | (go_at_call 21; refine HC.out.mono ?_; rintro e w2 ⟨rfl, hb⟩; have HB2 := Lib.hid hb; clear hb))
  have HK2 : Hid (Bk w2 w.heap.size 32 a.cs) := Lib.hid (HB0.out.below HB2.out HL1.out)
  have HBC : Hid (Below w.heap.size w w2) := Lib.hid (HBA.out.trans (HB2.out.mono HBA.out.size))
  have HG3 : Hid (Gl w2) := Lib.hid (HG.out.below HBC.out HS.out)
  have c0 : w2.cell? ⟨w.heap.size, 0, none⟩ = some (.int .i64 k) := by rw [← HK.out]; exact HK2.out.cell 0
  have cw : w2.cell? ⟨1, k, none⟩ = some (.string (bt (wordOf k))) := HG3.out.words k hk
  have HFR : Hid (w2.rangeAt 0 (k * 5) (fcs k).toList) := Lib.hid (form_row HG3.out k hk)
  have HSF : Hid (some 5 = some (fcs k).size) := Lib.hid (by rw [fcs_size k hk])
  have HWL : Hid ((wordOf k).length ≤ 4) := Lib.hid (word_len k)
  obtain ⟨tw, htw⟩ : ∃ tw, tw = bt (wordOf k) := ⟨_, rfl⟩
  have HTW := Lib.hid htw
  rw [← htw] at cw
  clear htw
  go_wp2_with (first
    | ((with_reducible show wpList _ _ _ (Oper.mk _ (Op.load 72 _) _ _ _ _ :: _) _ _); refine wpList_load_arr rfl 72 _ rfl 0 (k * 5) (by simp [Act.eval]) (fcs k) _ HFR.out Tryd.underlying72 rfl (size35.trans HSF.out) ?_))
  clear c0 cw
  go_loopw [3, 17] (fun v i wr => ∃ (j : Nat) (t : ByteArray), j ≤ 5 ∧ i = .int .i64 j ∧ v = .string t ∧ Hid (Bk wr w.heap.size 32 a.cs) ∧ Hid (Below w.heap.size w wr) ∧ Hid (t = bt (wordOf k ++ txts ((formOf k).take j) a))) (fun _ i _ => 5 - (intOf i).toNat)
  case atStart => exact ⟨0, tw, Nat.zero_le _, rfl, rfl, HK2, HBC, Lib.hid (by rw [HTW.out]; simp [txts])⟩
  case round =>
    obtain ⟨j, t, hj, rfl, rfl, HK3, HBR, HTT⟩ := hrel
    have ht : t.size ≤ 300 := by
      rw [HTT.out, bt_size, List.length_append]
      have h1 := txts_len ((formOf k).take j) a (fun p hp => HPO.out p (List.mem_of_mem_take hp))
      have h2 : ((formOf k).take j).length ≤ 5 := by rw [List.length_take]; omega
      have := HWL.out
      omega
    by_cases hlt : j < 5
    · have hi := run_index35 (w := wr) (fcs k) j _ hlt (fcs_at k j hk hlt)
      have hj1 : (j : Int) < 5 := by omega
      have HP : Hid ((formOf k).getD j 0 ≤ 13) := Lib.hid (form_get_le k j hk hlt)
      have HPK : Hid (partOk ((formOf k).getD j 0) a) := Lib.hid (HPO.out _ (by
        have hl := form_len k hk
        simp [List.getElem?_eq_getElem (show j < (formOf k).length by omega)]))
      have HTK := Lib.hid (txts_take k j hk hlt a)
      have HGR : Hid (Gl wr) := Lib.hid (HG.out.below HBR.out HS.out)
      generalize (formOf k).getD j 0 = p at *
      have HT := Lib.hid (ptext_any p HP.out a HPK.out wr HGR.out)
      have hpl : (bt (txt p a)).size ≤ 40 := txt_len p a HPK.out
      have HTN : Hid (t ++ bt (txt p a) = bt (wordOf k ++ txts ((formOf k).take (j + 1)) a)) := Lib.hid (by rw [HTT.out, bt_app, HTK.out, List.append_assoc])
      unfold TxPost at HT
      generalize bt (txt p a) = tp at *
      go_wp2_with (first
        | ((with_reducible show wpList _ _ _ (Oper.mk _ (Op.load 32 _) _ _ _ _ :: _) _ _); refine wpList_load_bk rfl 32 _ rfl w.heap.size 32 a.cs rfl _ HK3.out Tryd.underlying32 rfl size25 ?_)
        | (go_at_call 35; refine (HT.out).mono ?_; rintro e w4 ⟨rfl, hb4⟩; have HB4 := Lib.hid hb4; clear hb4))
      go_roundw
      case rel => exact ⟨j + 1, _, by omega, by go_num, rfl, Lib.hid (HK3.out.below HB4.out HK3.out.lt), Lib.hid (HBR.out.trans (HB4.out.mono HBR.out.size)), HTN⟩
      case measure => simp [intOf]; omega
    · obtain rfl : j = 5 := by omega
      have HE : Hid (t = bt (text a)) := Lib.hid (by
        rw [HTT.out, HR.out, List.take_of_length_le (by have := form_len k hk; omega)])
      go_wp2_with fail
      go_ret
      exact ⟨ret_text HE.out, HBR.out⟩
set_option maxHeartbeats 800000 in
theorem text_no (a : Acn) (hr : rights a = false) (w : World) (hG : Gl w) :
    Calls Tryd.prog 25 #[.agg a.cs] w fun e w' => e = .returned (.string (bt (text a))) ∧ Below w.heap.size w w' := by
  have HR : Hid (bt (text a) = ⟨#[]⟩) := Lib.hid (by rw [(text_ne a).2 hr]; rfl)
  have HB0 : Hid (Bk (w.alloc (.cells a.cs 32)) w.heap.size 32 a.cs) := Lib.hid (heap_alloc_new _ _)
  have HBA : Hid (Below w.heap.size w (w.alloc (.cells a.cs 32))) := Lib.hid ((Below.refl _ _).alloc (Nat.le_refl _) _)
  have HG : Hid (Gl w) := Lib.hid hG
  have HS : Hid (8 ≤ w.heap.size) := Lib.hid hG.big
  have HRI := Lib.hid hr
  clear hG hr
  go_enter Tryd.func25, Tryd.ntmps25
  go_upto_region 1 with fail
  generalize w.alloc (.cells a.cs 32) = w1 at HB0 HBA ⊢
  have HC := Lib.hid (right_any a w1 (HG.out.below HBA.out HS.out))
  rw [HRI.out] at HC
  go_wp2_with (first
    | ((with_reducible show wpList _ _ _ (Oper.mk _ (Op.load 32 _) _ _ _ _ :: _) _ _); refine wpList_load_bk rfl 32 _ rfl w.heap.size 32 a.cs rfl _ HB0.out Tryd.underlying32 rfl size25 ?_)
    | (go_at_call 21; refine HC.out.mono ?_; rintro e w2 ⟨rfl, hb⟩; have HB2 := Lib.hid hb; clear hb))
  go_ret
  exact ⟨ret_text HR.out.symm, HBA.out.trans (HB2.out.mono HBA.out.size)⟩
theorem text_any (a : Acn) (ho : a.ok) (w : World) (hG : Gl w) : Calls Tryd.prog 25 #[.agg a.cs] w fun e w' => e = .returned (.string (bt (text a))) ∧ Below w.heap.size w w' := by
  cases hr : rights a
  · exact text_no a hr w hG
  · obtain ⟨h1, h2, _⟩ := rights_k hr
    obtain ⟨k, hk⟩ : ∃ k : Nat, a.kind = k := ⟨a.kind.toNat, by omega⟩
    exact text_yes k (by omega) a hk ho hr w hG
end Go.Proofs.YtnkimfbdcghgpaaDoor
