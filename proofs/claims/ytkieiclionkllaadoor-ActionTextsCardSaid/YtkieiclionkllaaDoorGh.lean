/-
  DERIVED. The walk of the document's Text: the first kinds.
-/
import Derived.Test.YtkieiclionkllaaDoorGg
namespace Go.Proofs.YtkieiclionkllaaDoor
open Go.RowKit Go.Sort
open Ac

set_option maxHeartbeats 3200000 in
set_option maxRecDepth 100000 in
theorem rtext_0 (a : Acn) (hk : a.kind = 0) (hr : rights a = true) (w : World) : Calls Tryd.prog 8 #[.agg a.cs] w fun e w' => e = .returned (.string (bt (text a))) ∧ Below w.heap.size w w' := by
  have hB := bounds a hr
  have Dpl := Lib.hid (fun w => dig_any a.pl hB.pl.1 (by have := hB.pl.2; omega) w)
  have spl := itoa_size a.pl (by have := hB.pl.1; omega) (by have : a.pl ≤ 999999999 := (by have := hB.pl.2; omega); omega)
  have HW : Hid (∀ w, Calls Tryd.prog 22 #[.int .i64 0] w fun e w' => e = .returned (.string (bt (wordOf 0))) ∧ Below w.heap.size w w') := Lib.hid (fun w => word_any 0 (by decide) w)
  have sw : (bt (wordOf 0)).size ≤ 4 := word_len 0
  have HT : Hid (bt (text a) = (((bt (wordOf 0)) ++ ⟨#[32, 64]⟩) ++ (bt (Lib.itoa a.pl)))) := Lib.hid (by
    show bt (text a) = (((bt (wordOf 0)) ++ bt [32, 64]) ++ (bt (Lib.itoa a.pl)))
    simp only [bt_app]
    congr 1
    unfold text
    rw [if_pos hr, hk]
    simp [formOf, txts, txt, numOf, sgOf, numT_pos 8 a.pl hB.pl.1])
  have HB0 : Hid (Bk (w.alloc (.cells a.cs 25)) w.heap.size 25 a.cs) := Lib.hid (heap_alloc_new _ _)
  have HBA : Hid (Below w.heap.size w (w.alloc (.cells a.cs 25))) := Lib.hid ((Below.refl _ _).alloc (Nat.le_refl _) _)
  have HLT : Hid (w.heap.size < (w.alloc (.cells a.cs 25)).heap.size) := Lib.hid (by simp)
  have CR := Lib.hid (fun w => rright_any a w)
  rw [hr] at CR
  have CH : Hid (∀ w, Calls Tryd.prog 18 #[.agg a.cs] w fun e w' => e = .returned (.agg (hcs (false, false, false, false, false, false, false, false))) ∧ Below w.heap.size w w') := Lib.hid (fun w => by
    have := has_any a w
    rw [hk] at this
    exact this)
  have HF : Hid (∀ w', Bk w' w.heap.size 25 a.cs → w'.cell? ⟨w.heap.size, 0, none⟩ = some (.int .i64 0) ∧ w'.cell? ⟨w.heap.size, 1, none⟩ = some (.int .i64 a.x) ∧ w'.cell? ⟨w.heap.size, 2, none⟩ = some (.int .i64 a.y) ∧ w'.cell? ⟨w.heap.size, 3, none⟩ = some (.int .i64 a.f) ∧ w'.cell? ⟨w.heap.size, 4, none⟩ = some (.int .i64 a.t) ∧ w'.cell? ⟨w.heap.size, 5, none⟩ = some (.int .i64 a.pl) ∧ w'.cell? ⟨w.heap.size, 6, none⟩ = some (.int .i64 a.op) ∧ w'.cell? ⟨w.heap.size, 7, none⟩ = some (.int .i64 a.l.v) ∧ w'.cell? ⟨w.heap.size, 8, none⟩ = some (.int .i64 a.l.n) ∧ w'.cell? ⟨w.heap.size, 9, none⟩ = some (.int .i64 a.r.v) ∧ w'.cell? ⟨w.heap.size, 10, none⟩ = some (.int .i64 a.r.n) ∧ w'.cell? ⟨w.heap.size, 11, none⟩ = some (.bool a.sense)) := Lib.hid (fun w' hb => ⟨by rw [← hk]; exact hb.cell 0, hb.cell 1, hb.cell 2, hb.cell 3, hb.cell 4, hb.cell 5, hb.cell 6, hb.cell 7, hb.cell 8, hb.cell 9, hb.cell 10, hb.cell 11⟩)
  clear hr hB
  generalize bt (wordOf 0) = tw at *
  generalize bt (Lib.itoa a.pl) = tpl at *
  go_enter Tryd.func8, Tryd.ntmps8
  go_upto_region 1 with fail
  generalize w.alloc (.cells a.cs 25) = w1 at HB0 HBA HLT ⊢
  go_upto_region 3 with (first
    | ((with_reducible show wpList _ _ _ (Oper.mk _ (Op.load 25 _) _ _ _ _ :: _) _ _); refine wpList_load_bk rfl 25 _ rfl w.heap.size 25 a.cs rfl _ HB0.out Tryd.underlying25 rfl size25 ?_)
    | (go_at_call 6; refine (CR.out _).mono ?_; rintro e w2 ⟨rfl, hb⟩; have HB1 := Lib.hid hb; have HA1 := Lib.hid (HB0.out.below hb HLT.out); clear hb))
  go_upto_region 4 with (first
    | ((with_reducible show wpList _ _ _ (Oper.mk _ (Op.load 25 _) _ _ _ _ :: _) _ _); refine wpList_load_bk rfl 25 _ rfl w.heap.size 25 a.cs rfl _ HA1.out Tryd.underlying25 rfl size25 ?_)
    | (go_at_call 18; refine (CH.out _).mono ?_; rintro e wh ⟨rfl, hb⟩; have HBH := Lib.hid hb; have HA2 := Lib.hid (HA1.out.below hb HA1.out.lt); clear hb)
    | ((with_reducible show wpList _ _ _ (Oper.mk _ (Op.store 39 _ _) _ _ _ _ :: _) _ _); refine wpList_store_new rfl 39 _ _ rfl _ (hcs (false, false, false, false, false, false, false, false)) rfl rfl size39 rfl (hcs_one _) ?_))
  have HB2 : Hid (Below w.heap.size w (wh.alloc (.cells (hcs (false, false, false, false, false, false, false, false)) 39))) := Lib.hid (((HBA.out.trans (HB1.out.mono HBA.out.size)).trans (HBH.out.mono (Nat.le_trans HBA.out.size HB1.out.size))).alloc (Nat.le_trans HBA.out.size (Nat.le_trans HB1.out.size HBH.out.size)) _)
  have HA : Hid (Bk (wh.alloc (.cells (hcs (false, false, false, false, false, false, false, false)) 39)) w.heap.size 25 a.cs) := Lib.hid (HA2.out.below ((Below.refl _ _).alloc (Nat.le_refl _) _) HA2.out.lt)
  have HH : Hid (Bk (wh.alloc (.cells (hcs (false, false, false, false, false, false, false, false)) 39)) wh.heap.size 39 (hcs (false, false, false, false, false, false, false, false))) := Lib.hid (heap_alloc_new _ _)
  generalize wh.alloc (.cells (hcs (false, false, false, false, false, false, false, false)) 39) = w3 at HB2 HA HH ⊢
  generalize wh.heap.size = g at HH ⊢
  have HFA : Hid (∀ w', Below w3.heap.size w3 w' → w'.cell? ⟨w.heap.size, 0, none⟩ = some (.int .i64 0) ∧ w'.cell? ⟨w.heap.size, 1, none⟩ = some (.int .i64 a.x) ∧ w'.cell? ⟨w.heap.size, 2, none⟩ = some (.int .i64 a.y) ∧ w'.cell? ⟨w.heap.size, 3, none⟩ = some (.int .i64 a.f) ∧ w'.cell? ⟨w.heap.size, 4, none⟩ = some (.int .i64 a.t) ∧ w'.cell? ⟨w.heap.size, 5, none⟩ = some (.int .i64 a.pl) ∧ w'.cell? ⟨w.heap.size, 6, none⟩ = some (.int .i64 a.op) ∧ w'.cell? ⟨w.heap.size, 7, none⟩ = some (.int .i64 a.l.v) ∧ w'.cell? ⟨w.heap.size, 8, none⟩ = some (.int .i64 a.l.n) ∧ w'.cell? ⟨w.heap.size, 9, none⟩ = some (.int .i64 a.r.v) ∧ w'.cell? ⟨w.heap.size, 10, none⟩ = some (.int .i64 a.r.n) ∧ w'.cell? ⟨w.heap.size, 11, none⟩ = some (.bool a.sense)) := Lib.hid (fun w' hb => HF.out w' (HA.out.below hb HA.out.lt))
  have HFG : Hid (∀ w', Below w3.heap.size w3 w' → w'.cell? ⟨g, 0, none⟩ = some (.bool false) ∧ w'.cell? ⟨g, 1, none⟩ = some (.bool false) ∧ w'.cell? ⟨g, 2, none⟩ = some (.bool false) ∧ w'.cell? ⟨g, 3, none⟩ = some (.bool false) ∧ w'.cell? ⟨g, 4, none⟩ = some (.bool false) ∧ w'.cell? ⟨g, 5, none⟩ = some (.bool false) ∧ w'.cell? ⟨g, 6, none⟩ = some (.bool false) ∧ w'.cell? ⟨g, 7, none⟩ = some (.bool false)) := Lib.hid (fun w' hb => by
    have hk := HH.out.below hb HH.out.lt
    exact ⟨hk.cell 0, hk.cell 1, hk.cell 2, hk.cell 3, hk.cell 4, hk.cell 5, hk.cell 6, hk.cell 7⟩)
  have HBc : Hid (Below w3.heap.size w3 w3) := Lib.hid (Below.refl _ _)
  obtain ⟨c0, c1, c2, c3, c4, c5, c6, c7, c8, c9, c10, c11⟩ := HFA.out _ HBc.out
  clear hk
  go_wp2_with (first
    | (go_at_call 22; (with_reducible refine (HW.out _).mono ?_); rintro e wn ⟨rfl, hb⟩; have HBc := Lib.hid (HBc.out.trans (hb.mono HBc.out.size)); obtain ⟨c0, c1, c2, c3, c4, c5, c6, c7, c8, c9, c10, c11⟩ := HFA.out _ HBc.out; obtain ⟨d0, d1, d2, d3, d4, d5, d6, d7⟩ := HFG.out _ HBc.out; clear hb)
    | (go_at_call 23; (with_reducible refine (Dpl.out _).mono ?_); rintro e wn ⟨rfl, hb⟩; have HBc := Lib.hid (HBc.out.trans (hb.mono HBc.out.size)); obtain ⟨c0, c1, c2, c3, c4, c5, c6, c7, c8, c9, c10, c11⟩ := HFA.out _ HBc.out; obtain ⟨d0, d1, d2, d3, d4, d5, d6, d7⟩ := HFG.out _ HBc.out; clear hb))
  go_ret
  exact ⟨ret_text HT.out.symm, HB2.out.trans (HBc.out.mono HB2.out.size)⟩
set_option maxHeartbeats 3200000 in
set_option maxRecDepth 100000 in
theorem rtext_1 (a : Acn) (hk : a.kind = 1) (hr : rights a = true) (w : World) : Calls Tryd.prog 8 #[.agg a.cs] w fun e w' => e = .returned (.string (bt (text a))) ∧ Below w.heap.size w w' := by
  have hB := bounds a hr
  have Px := Lib.hid (fun w => pointer_any a.x hB.x.1 (by have := hB.x.2; omega) w)
  have zx := numT_size a.x hB.x.1 hB.x.2
  have Dpl := Lib.hid (fun w => dig_any a.pl hB.pl.1 (by have := hB.pl.2; omega) w)
  have spl := itoa_size a.pl (by have := hB.pl.1; omega) (by have : a.pl ≤ 999999999 := (by have := hB.pl.2; omega); omega)
  have HW : Hid (∀ w, Calls Tryd.prog 22 #[.int .i64 1] w fun e w' => e = .returned (.string (bt (wordOf 1))) ∧ Below w.heap.size w w') := Lib.hid (fun w => word_any 1 (by decide) w)
  have sw : (bt (wordOf 1)).size ≤ 4 := word_len 1
  have HT : Hid (bt (text a) = ((((bt (wordOf 1)) ++ (bt (32 :: numT 1 a.x))) ++ ⟨#[32, 64]⟩) ++ (bt (Lib.itoa a.pl)))) := Lib.hid (by
    show bt (text a) = ((((bt (wordOf 1)) ++ (bt (32 :: numT 1 a.x))) ++ bt [32, 64]) ++ (bt (Lib.itoa a.pl)))
    simp only [bt_app]
    congr 1
    unfold text
    rw [if_pos hr, hk]
    simp [formOf, txts, txt, numOf, sgOf, numT_pos 8 a.pl hB.pl.1])
  have HB0 : Hid (Bk (w.alloc (.cells a.cs 25)) w.heap.size 25 a.cs) := Lib.hid (heap_alloc_new _ _)
  have HBA : Hid (Below w.heap.size w (w.alloc (.cells a.cs 25))) := Lib.hid ((Below.refl _ _).alloc (Nat.le_refl _) _)
  have HLT : Hid (w.heap.size < (w.alloc (.cells a.cs 25)).heap.size) := Lib.hid (by simp)
  have CR := Lib.hid (fun w => rright_any a w)
  rw [hr] at CR
  have CH : Hid (∀ w, Calls Tryd.prog 18 #[.agg a.cs] w fun e w' => e = .returned (.agg (hcs (true, false, false, false, false, false, false, false))) ∧ Below w.heap.size w w') := Lib.hid (fun w => by
    have := has_any a w
    rw [hk] at this
    exact this)
  have HF : Hid (∀ w', Bk w' w.heap.size 25 a.cs → w'.cell? ⟨w.heap.size, 0, none⟩ = some (.int .i64 1) ∧ w'.cell? ⟨w.heap.size, 1, none⟩ = some (.int .i64 a.x) ∧ w'.cell? ⟨w.heap.size, 2, none⟩ = some (.int .i64 a.y) ∧ w'.cell? ⟨w.heap.size, 3, none⟩ = some (.int .i64 a.f) ∧ w'.cell? ⟨w.heap.size, 4, none⟩ = some (.int .i64 a.t) ∧ w'.cell? ⟨w.heap.size, 5, none⟩ = some (.int .i64 a.pl) ∧ w'.cell? ⟨w.heap.size, 6, none⟩ = some (.int .i64 a.op) ∧ w'.cell? ⟨w.heap.size, 7, none⟩ = some (.int .i64 a.l.v) ∧ w'.cell? ⟨w.heap.size, 8, none⟩ = some (.int .i64 a.l.n) ∧ w'.cell? ⟨w.heap.size, 9, none⟩ = some (.int .i64 a.r.v) ∧ w'.cell? ⟨w.heap.size, 10, none⟩ = some (.int .i64 a.r.n) ∧ w'.cell? ⟨w.heap.size, 11, none⟩ = some (.bool a.sense)) := Lib.hid (fun w' hb => ⟨by rw [← hk]; exact hb.cell 0, hb.cell 1, hb.cell 2, hb.cell 3, hb.cell 4, hb.cell 5, hb.cell 6, hb.cell 7, hb.cell 8, hb.cell 9, hb.cell 10, hb.cell 11⟩)
  clear hr hB
  generalize bt (wordOf 1) = tw at *
  generalize bt (32 :: numT 1 a.x) = qx at *
  generalize bt (Lib.itoa a.pl) = tpl at *
  go_enter Tryd.func8, Tryd.ntmps8
  go_upto_region 1 with fail
  generalize w.alloc (.cells a.cs 25) = w1 at HB0 HBA HLT ⊢
  go_upto_region 3 with (first
    | ((with_reducible show wpList _ _ _ (Oper.mk _ (Op.load 25 _) _ _ _ _ :: _) _ _); refine wpList_load_bk rfl 25 _ rfl w.heap.size 25 a.cs rfl _ HB0.out Tryd.underlying25 rfl size25 ?_)
    | (go_at_call 6; refine (CR.out _).mono ?_; rintro e w2 ⟨rfl, hb⟩; have HB1 := Lib.hid hb; have HA1 := Lib.hid (HB0.out.below hb HLT.out); clear hb))
  go_upto_region 4 with (first
    | ((with_reducible show wpList _ _ _ (Oper.mk _ (Op.load 25 _) _ _ _ _ :: _) _ _); refine wpList_load_bk rfl 25 _ rfl w.heap.size 25 a.cs rfl _ HA1.out Tryd.underlying25 rfl size25 ?_)
    | (go_at_call 18; refine (CH.out _).mono ?_; rintro e wh ⟨rfl, hb⟩; have HBH := Lib.hid hb; have HA2 := Lib.hid (HA1.out.below hb HA1.out.lt); clear hb)
    | ((with_reducible show wpList _ _ _ (Oper.mk _ (Op.store 39 _ _) _ _ _ _ :: _) _ _); refine wpList_store_new rfl 39 _ _ rfl _ (hcs (true, false, false, false, false, false, false, false)) rfl rfl size39 rfl (hcs_one _) ?_))
  have HB2 : Hid (Below w.heap.size w (wh.alloc (.cells (hcs (true, false, false, false, false, false, false, false)) 39))) := Lib.hid (((HBA.out.trans (HB1.out.mono HBA.out.size)).trans (HBH.out.mono (Nat.le_trans HBA.out.size HB1.out.size))).alloc (Nat.le_trans HBA.out.size (Nat.le_trans HB1.out.size HBH.out.size)) _)
  have HA : Hid (Bk (wh.alloc (.cells (hcs (true, false, false, false, false, false, false, false)) 39)) w.heap.size 25 a.cs) := Lib.hid (HA2.out.below ((Below.refl _ _).alloc (Nat.le_refl _) _) HA2.out.lt)
  have HH : Hid (Bk (wh.alloc (.cells (hcs (true, false, false, false, false, false, false, false)) 39)) wh.heap.size 39 (hcs (true, false, false, false, false, false, false, false))) := Lib.hid (heap_alloc_new _ _)
  generalize wh.alloc (.cells (hcs (true, false, false, false, false, false, false, false)) 39) = w3 at HB2 HA HH ⊢
  generalize wh.heap.size = g at HH ⊢
  have HFA : Hid (∀ w', Below w3.heap.size w3 w' → w'.cell? ⟨w.heap.size, 0, none⟩ = some (.int .i64 1) ∧ w'.cell? ⟨w.heap.size, 1, none⟩ = some (.int .i64 a.x) ∧ w'.cell? ⟨w.heap.size, 2, none⟩ = some (.int .i64 a.y) ∧ w'.cell? ⟨w.heap.size, 3, none⟩ = some (.int .i64 a.f) ∧ w'.cell? ⟨w.heap.size, 4, none⟩ = some (.int .i64 a.t) ∧ w'.cell? ⟨w.heap.size, 5, none⟩ = some (.int .i64 a.pl) ∧ w'.cell? ⟨w.heap.size, 6, none⟩ = some (.int .i64 a.op) ∧ w'.cell? ⟨w.heap.size, 7, none⟩ = some (.int .i64 a.l.v) ∧ w'.cell? ⟨w.heap.size, 8, none⟩ = some (.int .i64 a.l.n) ∧ w'.cell? ⟨w.heap.size, 9, none⟩ = some (.int .i64 a.r.v) ∧ w'.cell? ⟨w.heap.size, 10, none⟩ = some (.int .i64 a.r.n) ∧ w'.cell? ⟨w.heap.size, 11, none⟩ = some (.bool a.sense)) := Lib.hid (fun w' hb => HF.out w' (HA.out.below hb HA.out.lt))
  have HFG : Hid (∀ w', Below w3.heap.size w3 w' → w'.cell? ⟨g, 0, none⟩ = some (.bool true) ∧ w'.cell? ⟨g, 1, none⟩ = some (.bool false) ∧ w'.cell? ⟨g, 2, none⟩ = some (.bool false) ∧ w'.cell? ⟨g, 3, none⟩ = some (.bool false) ∧ w'.cell? ⟨g, 4, none⟩ = some (.bool false) ∧ w'.cell? ⟨g, 5, none⟩ = some (.bool false) ∧ w'.cell? ⟨g, 6, none⟩ = some (.bool false) ∧ w'.cell? ⟨g, 7, none⟩ = some (.bool false)) := Lib.hid (fun w' hb => by
    have hk := HH.out.below hb HH.out.lt
    exact ⟨hk.cell 0, hk.cell 1, hk.cell 2, hk.cell 3, hk.cell 4, hk.cell 5, hk.cell 6, hk.cell 7⟩)
  have HBc : Hid (Below w3.heap.size w3 w3) := Lib.hid (Below.refl _ _)
  obtain ⟨c0, c1, c2, c3, c4, c5, c6, c7, c8, c9, c10, c11⟩ := HFA.out _ HBc.out
  clear hk
  go_wp2_with (first
    | (go_at_call 22; (with_reducible refine (HW.out _).mono ?_); rintro e wn ⟨rfl, hb⟩; have HBc := Lib.hid (HBc.out.trans (hb.mono HBc.out.size)); obtain ⟨c0, c1, c2, c3, c4, c5, c6, c7, c8, c9, c10, c11⟩ := HFA.out _ HBc.out; obtain ⟨d0, d1, d2, d3, d4, d5, d6, d7⟩ := HFG.out _ HBc.out; clear hb)
    | (go_at_call 24; (with_reducible refine (Px.out _).mono ?_); rintro e wn ⟨rfl, hb⟩; have HBc := Lib.hid (HBc.out.trans (hb.mono HBc.out.size)); obtain ⟨c0, c1, c2, c3, c4, c5, c6, c7, c8, c9, c10, c11⟩ := HFA.out _ HBc.out; obtain ⟨d0, d1, d2, d3, d4, d5, d6, d7⟩ := HFG.out _ HBc.out; clear hb)
    | (go_at_call 23; (with_reducible refine (Dpl.out _).mono ?_); rintro e wn ⟨rfl, hb⟩; have HBc := Lib.hid (HBc.out.trans (hb.mono HBc.out.size)); obtain ⟨c0, c1, c2, c3, c4, c5, c6, c7, c8, c9, c10, c11⟩ := HFA.out _ HBc.out; obtain ⟨d0, d1, d2, d3, d4, d5, d6, d7⟩ := HFG.out _ HBc.out; clear hb))
  go_ret
  exact ⟨ret_text HT.out.symm, HB2.out.trans (HBc.out.mono HB2.out.size)⟩
set_option maxHeartbeats 3200000 in
set_option maxRecDepth 100000 in
theorem rtext_2 (a : Acn) (hk : a.kind = 2) (hr : rights a = true) (w : World) : Calls Tryd.prog 8 #[.agg a.cs] w fun e w' => e = .returned (.string (bt (text a))) ∧ Below w.heap.size w w' := by
  have hB := bounds a hr
  have Px := Lib.hid (fun w => pointer_any a.x hB.x.1 (by have := hB.x.2; omega) w)
  have zx := numT_size a.x hB.x.1 hB.x.2
  have Py := Lib.hid (fun w => pointer_any a.y hB.y.1 (by have := hB.y.2; omega) w)
  have zy := numT_size a.y hB.y.1 hB.y.2
  have Dpl := Lib.hid (fun w => dig_any a.pl hB.pl.1 (by have := hB.pl.2; omega) w)
  have spl := itoa_size a.pl (by have := hB.pl.1; omega) (by have : a.pl ≤ 999999999 := (by have := hB.pl.2; omega); omega)
  have HW : Hid (∀ w, Calls Tryd.prog 22 #[.int .i64 2] w fun e w' => e = .returned (.string (bt (wordOf 2))) ∧ Below w.heap.size w w') := Lib.hid (fun w => word_any 2 (by decide) w)
  have sw : (bt (wordOf 2)).size ≤ 4 := word_len 2
  have HT : Hid (bt (text a) = (((((bt (wordOf 2)) ++ (bt (32 :: numT 1 a.x))) ++ (bt (32 :: numT 1 a.y))) ++ ⟨#[32, 64]⟩) ++ (bt (Lib.itoa a.pl)))) := Lib.hid (by
    show bt (text a) = (((((bt (wordOf 2)) ++ (bt (32 :: numT 1 a.x))) ++ (bt (32 :: numT 1 a.y))) ++ bt [32, 64]) ++ (bt (Lib.itoa a.pl)))
    simp only [bt_app]
    congr 1
    unfold text
    rw [if_pos hr, hk]
    simp [formOf, txts, txt, numOf, sgOf, numT_pos 8 a.pl hB.pl.1, numT_2])
  have HB0 : Hid (Bk (w.alloc (.cells a.cs 25)) w.heap.size 25 a.cs) := Lib.hid (heap_alloc_new _ _)
  have HBA : Hid (Below w.heap.size w (w.alloc (.cells a.cs 25))) := Lib.hid ((Below.refl _ _).alloc (Nat.le_refl _) _)
  have HLT : Hid (w.heap.size < (w.alloc (.cells a.cs 25)).heap.size) := Lib.hid (by simp)
  have CR := Lib.hid (fun w => rright_any a w)
  rw [hr] at CR
  have CH : Hid (∀ w, Calls Tryd.prog 18 #[.agg a.cs] w fun e w' => e = .returned (.agg (hcs (true, true, false, false, false, false, false, false))) ∧ Below w.heap.size w w') := Lib.hid (fun w => by
    have := has_any a w
    rw [hk] at this
    exact this)
  have HF : Hid (∀ w', Bk w' w.heap.size 25 a.cs → w'.cell? ⟨w.heap.size, 0, none⟩ = some (.int .i64 2) ∧ w'.cell? ⟨w.heap.size, 1, none⟩ = some (.int .i64 a.x) ∧ w'.cell? ⟨w.heap.size, 2, none⟩ = some (.int .i64 a.y) ∧ w'.cell? ⟨w.heap.size, 3, none⟩ = some (.int .i64 a.f) ∧ w'.cell? ⟨w.heap.size, 4, none⟩ = some (.int .i64 a.t) ∧ w'.cell? ⟨w.heap.size, 5, none⟩ = some (.int .i64 a.pl) ∧ w'.cell? ⟨w.heap.size, 6, none⟩ = some (.int .i64 a.op) ∧ w'.cell? ⟨w.heap.size, 7, none⟩ = some (.int .i64 a.l.v) ∧ w'.cell? ⟨w.heap.size, 8, none⟩ = some (.int .i64 a.l.n) ∧ w'.cell? ⟨w.heap.size, 9, none⟩ = some (.int .i64 a.r.v) ∧ w'.cell? ⟨w.heap.size, 10, none⟩ = some (.int .i64 a.r.n) ∧ w'.cell? ⟨w.heap.size, 11, none⟩ = some (.bool a.sense)) := Lib.hid (fun w' hb => ⟨by rw [← hk]; exact hb.cell 0, hb.cell 1, hb.cell 2, hb.cell 3, hb.cell 4, hb.cell 5, hb.cell 6, hb.cell 7, hb.cell 8, hb.cell 9, hb.cell 10, hb.cell 11⟩)
  clear hr hB
  generalize bt (wordOf 2) = tw at *
  generalize bt (32 :: numT 1 a.x) = qx at *
  generalize bt (32 :: numT 1 a.y) = qy at *
  generalize bt (Lib.itoa a.pl) = tpl at *
  go_enter Tryd.func8, Tryd.ntmps8
  go_upto_region 1 with fail
  generalize w.alloc (.cells a.cs 25) = w1 at HB0 HBA HLT ⊢
  go_upto_region 3 with (first
    | ((with_reducible show wpList _ _ _ (Oper.mk _ (Op.load 25 _) _ _ _ _ :: _) _ _); refine wpList_load_bk rfl 25 _ rfl w.heap.size 25 a.cs rfl _ HB0.out Tryd.underlying25 rfl size25 ?_)
    | (go_at_call 6; refine (CR.out _).mono ?_; rintro e w2 ⟨rfl, hb⟩; have HB1 := Lib.hid hb; have HA1 := Lib.hid (HB0.out.below hb HLT.out); clear hb))
  go_upto_region 4 with (first
    | ((with_reducible show wpList _ _ _ (Oper.mk _ (Op.load 25 _) _ _ _ _ :: _) _ _); refine wpList_load_bk rfl 25 _ rfl w.heap.size 25 a.cs rfl _ HA1.out Tryd.underlying25 rfl size25 ?_)
    | (go_at_call 18; refine (CH.out _).mono ?_; rintro e wh ⟨rfl, hb⟩; have HBH := Lib.hid hb; have HA2 := Lib.hid (HA1.out.below hb HA1.out.lt); clear hb)
    | ((with_reducible show wpList _ _ _ (Oper.mk _ (Op.store 39 _ _) _ _ _ _ :: _) _ _); refine wpList_store_new rfl 39 _ _ rfl _ (hcs (true, true, false, false, false, false, false, false)) rfl rfl size39 rfl (hcs_one _) ?_))
  have HB2 : Hid (Below w.heap.size w (wh.alloc (.cells (hcs (true, true, false, false, false, false, false, false)) 39))) := Lib.hid (((HBA.out.trans (HB1.out.mono HBA.out.size)).trans (HBH.out.mono (Nat.le_trans HBA.out.size HB1.out.size))).alloc (Nat.le_trans HBA.out.size (Nat.le_trans HB1.out.size HBH.out.size)) _)
  have HA : Hid (Bk (wh.alloc (.cells (hcs (true, true, false, false, false, false, false, false)) 39)) w.heap.size 25 a.cs) := Lib.hid (HA2.out.below ((Below.refl _ _).alloc (Nat.le_refl _) _) HA2.out.lt)
  have HH : Hid (Bk (wh.alloc (.cells (hcs (true, true, false, false, false, false, false, false)) 39)) wh.heap.size 39 (hcs (true, true, false, false, false, false, false, false))) := Lib.hid (heap_alloc_new _ _)
  generalize wh.alloc (.cells (hcs (true, true, false, false, false, false, false, false)) 39) = w3 at HB2 HA HH ⊢
  generalize wh.heap.size = g at HH ⊢
  have HFA : Hid (∀ w', Below w3.heap.size w3 w' → w'.cell? ⟨w.heap.size, 0, none⟩ = some (.int .i64 2) ∧ w'.cell? ⟨w.heap.size, 1, none⟩ = some (.int .i64 a.x) ∧ w'.cell? ⟨w.heap.size, 2, none⟩ = some (.int .i64 a.y) ∧ w'.cell? ⟨w.heap.size, 3, none⟩ = some (.int .i64 a.f) ∧ w'.cell? ⟨w.heap.size, 4, none⟩ = some (.int .i64 a.t) ∧ w'.cell? ⟨w.heap.size, 5, none⟩ = some (.int .i64 a.pl) ∧ w'.cell? ⟨w.heap.size, 6, none⟩ = some (.int .i64 a.op) ∧ w'.cell? ⟨w.heap.size, 7, none⟩ = some (.int .i64 a.l.v) ∧ w'.cell? ⟨w.heap.size, 8, none⟩ = some (.int .i64 a.l.n) ∧ w'.cell? ⟨w.heap.size, 9, none⟩ = some (.int .i64 a.r.v) ∧ w'.cell? ⟨w.heap.size, 10, none⟩ = some (.int .i64 a.r.n) ∧ w'.cell? ⟨w.heap.size, 11, none⟩ = some (.bool a.sense)) := Lib.hid (fun w' hb => HF.out w' (HA.out.below hb HA.out.lt))
  have HFG : Hid (∀ w', Below w3.heap.size w3 w' → w'.cell? ⟨g, 0, none⟩ = some (.bool true) ∧ w'.cell? ⟨g, 1, none⟩ = some (.bool true) ∧ w'.cell? ⟨g, 2, none⟩ = some (.bool false) ∧ w'.cell? ⟨g, 3, none⟩ = some (.bool false) ∧ w'.cell? ⟨g, 4, none⟩ = some (.bool false) ∧ w'.cell? ⟨g, 5, none⟩ = some (.bool false) ∧ w'.cell? ⟨g, 6, none⟩ = some (.bool false) ∧ w'.cell? ⟨g, 7, none⟩ = some (.bool false)) := Lib.hid (fun w' hb => by
    have hk := HH.out.below hb HH.out.lt
    exact ⟨hk.cell 0, hk.cell 1, hk.cell 2, hk.cell 3, hk.cell 4, hk.cell 5, hk.cell 6, hk.cell 7⟩)
  have HBc : Hid (Below w3.heap.size w3 w3) := Lib.hid (Below.refl _ _)
  obtain ⟨c0, c1, c2, c3, c4, c5, c6, c7, c8, c9, c10, c11⟩ := HFA.out _ HBc.out
  clear hk
  go_wp2_with (first
    | (go_at_call 22; (with_reducible refine (HW.out _).mono ?_); rintro e wn ⟨rfl, hb⟩; have HBc := Lib.hid (HBc.out.trans (hb.mono HBc.out.size)); obtain ⟨c0, c1, c2, c3, c4, c5, c6, c7, c8, c9, c10, c11⟩ := HFA.out _ HBc.out; obtain ⟨d0, d1, d2, d3, d4, d5, d6, d7⟩ := HFG.out _ HBc.out; clear hb)
    | (go_at_call 24; (with_reducible refine (Px.out _).mono ?_); rintro e wn ⟨rfl, hb⟩; have HBc := Lib.hid (HBc.out.trans (hb.mono HBc.out.size)); obtain ⟨c0, c1, c2, c3, c4, c5, c6, c7, c8, c9, c10, c11⟩ := HFA.out _ HBc.out; obtain ⟨d0, d1, d2, d3, d4, d5, d6, d7⟩ := HFG.out _ HBc.out; clear hb)
    | (go_at_call 24; (with_reducible refine (Py.out _).mono ?_); rintro e wn ⟨rfl, hb⟩; have HBc := Lib.hid (HBc.out.trans (hb.mono HBc.out.size)); obtain ⟨c0, c1, c2, c3, c4, c5, c6, c7, c8, c9, c10, c11⟩ := HFA.out _ HBc.out; obtain ⟨d0, d1, d2, d3, d4, d5, d6, d7⟩ := HFG.out _ HBc.out; clear hb)
    | (go_at_call 23; (with_reducible refine (Dpl.out _).mono ?_); rintro e wn ⟨rfl, hb⟩; have HBc := Lib.hid (HBc.out.trans (hb.mono HBc.out.size)); obtain ⟨c0, c1, c2, c3, c4, c5, c6, c7, c8, c9, c10, c11⟩ := HFA.out _ HBc.out; obtain ⟨d0, d1, d2, d3, d4, d5, d6, d7⟩ := HFG.out _ HBc.out; clear hb))
  go_ret
  exact ⟨ret_text HT.out.symm, HB2.out.trans (HBc.out.mono HB2.out.size)⟩
set_option maxHeartbeats 3200000 in
set_option maxRecDepth 100000 in
theorem rtext_3 (a : Acn) (hk : a.kind = 3) (hr : rights a = true) (w : World) : Calls Tryd.prog 8 #[.agg a.cs] w fun e w' => e = .returned (.string (bt (text a))) ∧ Below w.heap.size w w' := by
  have hB := bounds a hr
  have Px := Lib.hid (fun w => pointer_any a.x hB.x.1 (by have := hB.x.2; omega) w)
  have zx := numT_size a.x hB.x.1 hB.x.2
  have Py := Lib.hid (fun w => pointer_any a.y hB.y.1 (by have := hB.y.2; omega) w)
  have zy := numT_size a.y hB.y.1 hB.y.2
  have Df := Lib.hid (fun w => dig_any a.f hB.f.1 (by have := hB.f.2; omega) w)
  have sf := itoa_size a.f (by have := hB.f.1; omega) (by have : a.f ≤ 999999999 := (by have := hB.f.2; omega); omega)
  have Dpl := Lib.hid (fun w => dig_any a.pl hB.pl.1 (by have := hB.pl.2; omega) w)
  have spl := itoa_size a.pl (by have := hB.pl.1; omega) (by have : a.pl ≤ 999999999 := (by have := hB.pl.2; omega); omega)
  have HW : Hid (∀ w, Calls Tryd.prog 22 #[.int .i64 3] w fun e w' => e = .returned (.string (bt (wordOf 3))) ∧ Below w.heap.size w w') := Lib.hid (fun w => word_any 3 (by decide) w)
  have sw : (bt (wordOf 3)).size ≤ 4 := word_len 3
  have HT : Hid (bt (text a) = (((((((bt (wordOf 3)) ++ (bt (32 :: numT 1 a.x))) ++ (bt (32 :: numT 1 a.y))) ++ ⟨#[32, 102]⟩) ++ (bt (Lib.itoa a.f))) ++ ⟨#[32, 64]⟩) ++ (bt (Lib.itoa a.pl)))) := Lib.hid (by
    show bt (text a) = (((((((bt (wordOf 3)) ++ (bt (32 :: numT 1 a.x))) ++ (bt (32 :: numT 1 a.y))) ++ bt [32, 102]) ++ (bt (Lib.itoa a.f))) ++ bt [32, 64]) ++ (bt (Lib.itoa a.pl)))
    simp only [bt_app]
    congr 1
    unfold text
    rw [if_pos hr, hk]
    simp [formOf, txts, txt, numOf, sgOf, numT_pos 6 a.f hB.f.1, numT_pos 8 a.pl hB.pl.1, numT_2])
  have HB0 : Hid (Bk (w.alloc (.cells a.cs 25)) w.heap.size 25 a.cs) := Lib.hid (heap_alloc_new _ _)
  have HBA : Hid (Below w.heap.size w (w.alloc (.cells a.cs 25))) := Lib.hid ((Below.refl _ _).alloc (Nat.le_refl _) _)
  have HLT : Hid (w.heap.size < (w.alloc (.cells a.cs 25)).heap.size) := Lib.hid (by simp)
  have CR := Lib.hid (fun w => rright_any a w)
  rw [hr] at CR
  have CH : Hid (∀ w, Calls Tryd.prog 18 #[.agg a.cs] w fun e w' => e = .returned (.agg (hcs (true, true, true, false, false, false, false, false))) ∧ Below w.heap.size w w') := Lib.hid (fun w => by
    have := has_any a w
    rw [hk] at this
    exact this)
  have HF : Hid (∀ w', Bk w' w.heap.size 25 a.cs → w'.cell? ⟨w.heap.size, 0, none⟩ = some (.int .i64 3) ∧ w'.cell? ⟨w.heap.size, 1, none⟩ = some (.int .i64 a.x) ∧ w'.cell? ⟨w.heap.size, 2, none⟩ = some (.int .i64 a.y) ∧ w'.cell? ⟨w.heap.size, 3, none⟩ = some (.int .i64 a.f) ∧ w'.cell? ⟨w.heap.size, 4, none⟩ = some (.int .i64 a.t) ∧ w'.cell? ⟨w.heap.size, 5, none⟩ = some (.int .i64 a.pl) ∧ w'.cell? ⟨w.heap.size, 6, none⟩ = some (.int .i64 a.op) ∧ w'.cell? ⟨w.heap.size, 7, none⟩ = some (.int .i64 a.l.v) ∧ w'.cell? ⟨w.heap.size, 8, none⟩ = some (.int .i64 a.l.n) ∧ w'.cell? ⟨w.heap.size, 9, none⟩ = some (.int .i64 a.r.v) ∧ w'.cell? ⟨w.heap.size, 10, none⟩ = some (.int .i64 a.r.n) ∧ w'.cell? ⟨w.heap.size, 11, none⟩ = some (.bool a.sense)) := Lib.hid (fun w' hb => ⟨by rw [← hk]; exact hb.cell 0, hb.cell 1, hb.cell 2, hb.cell 3, hb.cell 4, hb.cell 5, hb.cell 6, hb.cell 7, hb.cell 8, hb.cell 9, hb.cell 10, hb.cell 11⟩)
  clear hr hB
  generalize bt (wordOf 3) = tw at *
  generalize bt (32 :: numT 1 a.x) = qx at *
  generalize bt (32 :: numT 1 a.y) = qy at *
  generalize bt (Lib.itoa a.f) = tf at *
  generalize bt (Lib.itoa a.pl) = tpl at *
  go_enter Tryd.func8, Tryd.ntmps8
  go_upto_region 1 with fail
  generalize w.alloc (.cells a.cs 25) = w1 at HB0 HBA HLT ⊢
  go_upto_region 3 with (first
    | ((with_reducible show wpList _ _ _ (Oper.mk _ (Op.load 25 _) _ _ _ _ :: _) _ _); refine wpList_load_bk rfl 25 _ rfl w.heap.size 25 a.cs rfl _ HB0.out Tryd.underlying25 rfl size25 ?_)
    | (go_at_call 6; refine (CR.out _).mono ?_; rintro e w2 ⟨rfl, hb⟩; have HB1 := Lib.hid hb; have HA1 := Lib.hid (HB0.out.below hb HLT.out); clear hb))
  go_upto_region 4 with (first
    | ((with_reducible show wpList _ _ _ (Oper.mk _ (Op.load 25 _) _ _ _ _ :: _) _ _); refine wpList_load_bk rfl 25 _ rfl w.heap.size 25 a.cs rfl _ HA1.out Tryd.underlying25 rfl size25 ?_)
    | (go_at_call 18; refine (CH.out _).mono ?_; rintro e wh ⟨rfl, hb⟩; have HBH := Lib.hid hb; have HA2 := Lib.hid (HA1.out.below hb HA1.out.lt); clear hb)
    | ((with_reducible show wpList _ _ _ (Oper.mk _ (Op.store 39 _ _) _ _ _ _ :: _) _ _); refine wpList_store_new rfl 39 _ _ rfl _ (hcs (true, true, true, false, false, false, false, false)) rfl rfl size39 rfl (hcs_one _) ?_))
  have HB2 : Hid (Below w.heap.size w (wh.alloc (.cells (hcs (true, true, true, false, false, false, false, false)) 39))) := Lib.hid (((HBA.out.trans (HB1.out.mono HBA.out.size)).trans (HBH.out.mono (Nat.le_trans HBA.out.size HB1.out.size))).alloc (Nat.le_trans HBA.out.size (Nat.le_trans HB1.out.size HBH.out.size)) _)
  have HA : Hid (Bk (wh.alloc (.cells (hcs (true, true, true, false, false, false, false, false)) 39)) w.heap.size 25 a.cs) := Lib.hid (HA2.out.below ((Below.refl _ _).alloc (Nat.le_refl _) _) HA2.out.lt)
  have HH : Hid (Bk (wh.alloc (.cells (hcs (true, true, true, false, false, false, false, false)) 39)) wh.heap.size 39 (hcs (true, true, true, false, false, false, false, false))) := Lib.hid (heap_alloc_new _ _)
  generalize wh.alloc (.cells (hcs (true, true, true, false, false, false, false, false)) 39) = w3 at HB2 HA HH ⊢
  generalize wh.heap.size = g at HH ⊢
  have HFA : Hid (∀ w', Below w3.heap.size w3 w' → w'.cell? ⟨w.heap.size, 0, none⟩ = some (.int .i64 3) ∧ w'.cell? ⟨w.heap.size, 1, none⟩ = some (.int .i64 a.x) ∧ w'.cell? ⟨w.heap.size, 2, none⟩ = some (.int .i64 a.y) ∧ w'.cell? ⟨w.heap.size, 3, none⟩ = some (.int .i64 a.f) ∧ w'.cell? ⟨w.heap.size, 4, none⟩ = some (.int .i64 a.t) ∧ w'.cell? ⟨w.heap.size, 5, none⟩ = some (.int .i64 a.pl) ∧ w'.cell? ⟨w.heap.size, 6, none⟩ = some (.int .i64 a.op) ∧ w'.cell? ⟨w.heap.size, 7, none⟩ = some (.int .i64 a.l.v) ∧ w'.cell? ⟨w.heap.size, 8, none⟩ = some (.int .i64 a.l.n) ∧ w'.cell? ⟨w.heap.size, 9, none⟩ = some (.int .i64 a.r.v) ∧ w'.cell? ⟨w.heap.size, 10, none⟩ = some (.int .i64 a.r.n) ∧ w'.cell? ⟨w.heap.size, 11, none⟩ = some (.bool a.sense)) := Lib.hid (fun w' hb => HF.out w' (HA.out.below hb HA.out.lt))
  have HFG : Hid (∀ w', Below w3.heap.size w3 w' → w'.cell? ⟨g, 0, none⟩ = some (.bool true) ∧ w'.cell? ⟨g, 1, none⟩ = some (.bool true) ∧ w'.cell? ⟨g, 2, none⟩ = some (.bool true) ∧ w'.cell? ⟨g, 3, none⟩ = some (.bool false) ∧ w'.cell? ⟨g, 4, none⟩ = some (.bool false) ∧ w'.cell? ⟨g, 5, none⟩ = some (.bool false) ∧ w'.cell? ⟨g, 6, none⟩ = some (.bool false) ∧ w'.cell? ⟨g, 7, none⟩ = some (.bool false)) := Lib.hid (fun w' hb => by
    have hk := HH.out.below hb HH.out.lt
    exact ⟨hk.cell 0, hk.cell 1, hk.cell 2, hk.cell 3, hk.cell 4, hk.cell 5, hk.cell 6, hk.cell 7⟩)
  have HBc : Hid (Below w3.heap.size w3 w3) := Lib.hid (Below.refl _ _)
  obtain ⟨c0, c1, c2, c3, c4, c5, c6, c7, c8, c9, c10, c11⟩ := HFA.out _ HBc.out
  clear hk
  go_wp2_with (first
    | (go_at_call 22; (with_reducible refine (HW.out _).mono ?_); rintro e wn ⟨rfl, hb⟩; have HBc := Lib.hid (HBc.out.trans (hb.mono HBc.out.size)); obtain ⟨c0, c1, c2, c3, c4, c5, c6, c7, c8, c9, c10, c11⟩ := HFA.out _ HBc.out; obtain ⟨d0, d1, d2, d3, d4, d5, d6, d7⟩ := HFG.out _ HBc.out; clear hb)
    | (go_at_call 24; (with_reducible refine (Px.out _).mono ?_); rintro e wn ⟨rfl, hb⟩; have HBc := Lib.hid (HBc.out.trans (hb.mono HBc.out.size)); obtain ⟨c0, c1, c2, c3, c4, c5, c6, c7, c8, c9, c10, c11⟩ := HFA.out _ HBc.out; obtain ⟨d0, d1, d2, d3, d4, d5, d6, d7⟩ := HFG.out _ HBc.out; clear hb)
    | (go_at_call 24; (with_reducible refine (Py.out _).mono ?_); rintro e wn ⟨rfl, hb⟩; have HBc := Lib.hid (HBc.out.trans (hb.mono HBc.out.size)); obtain ⟨c0, c1, c2, c3, c4, c5, c6, c7, c8, c9, c10, c11⟩ := HFA.out _ HBc.out; obtain ⟨d0, d1, d2, d3, d4, d5, d6, d7⟩ := HFG.out _ HBc.out; clear hb)
    | (go_at_call 23; (with_reducible refine (Df.out _).mono ?_); rintro e wn ⟨rfl, hb⟩; have HBc := Lib.hid (HBc.out.trans (hb.mono HBc.out.size)); obtain ⟨c0, c1, c2, c3, c4, c5, c6, c7, c8, c9, c10, c11⟩ := HFA.out _ HBc.out; obtain ⟨d0, d1, d2, d3, d4, d5, d6, d7⟩ := HFG.out _ HBc.out; clear hb)
    | (go_at_call 23; (with_reducible refine (Dpl.out _).mono ?_); rintro e wn ⟨rfl, hb⟩; have HBc := Lib.hid (HBc.out.trans (hb.mono HBc.out.size)); obtain ⟨c0, c1, c2, c3, c4, c5, c6, c7, c8, c9, c10, c11⟩ := HFA.out _ HBc.out; obtain ⟨d0, d1, d2, d3, d4, d5, d6, d7⟩ := HFG.out _ HBc.out; clear hb))
  go_ret
  exact ⟨ret_text HT.out.symm, HB2.out.trans (HBc.out.mono HB2.out.size)⟩
set_option maxHeartbeats 3200000 in
set_option maxRecDepth 100000 in
theorem rtext_4 (a : Acn) (hk : a.kind = 4) (hr : rights a = true) (w : World) : Calls Tryd.prog 8 #[.agg a.cs] w fun e w' => e = .returned (.string (bt (text a))) ∧ Below w.heap.size w w' := by
  have hB := bounds a hr
  have Px := Lib.hid (fun w => pointer_any a.x hB.x.1 (by have := hB.x.2; omega) w)
  have zx := numT_size a.x hB.x.1 hB.x.2
  have Df := Lib.hid (fun w => dig_any a.f hB.f.1 (by have := hB.f.2; omega) w)
  have sf := itoa_size a.f (by have := hB.f.1; omega) (by have : a.f ≤ 999999999 := (by have := hB.f.2; omega); omega)
  have Dpl := Lib.hid (fun w => dig_any a.pl hB.pl.1 (by have := hB.pl.2; omega) w)
  have spl := itoa_size a.pl (by have := hB.pl.1; omega) (by have : a.pl ≤ 999999999 := (by have := hB.pl.2; omega); omega)
  have HW : Hid (∀ w, Calls Tryd.prog 22 #[.int .i64 4] w fun e w' => e = .returned (.string (bt (wordOf 4))) ∧ Below w.heap.size w w') := Lib.hid (fun w => word_any 4 (by decide) w)
  have sw : (bt (wordOf 4)).size ≤ 4 := word_len 4
  have HT : Hid (bt (text a) = ((((((bt (wordOf 4)) ++ (bt (32 :: numT 1 a.x))) ++ ⟨#[32, 102]⟩) ++ (bt (Lib.itoa a.f))) ++ ⟨#[32, 64]⟩) ++ (bt (Lib.itoa a.pl)))) := Lib.hid (by
    show bt (text a) = ((((((bt (wordOf 4)) ++ (bt (32 :: numT 1 a.x))) ++ bt [32, 102]) ++ (bt (Lib.itoa a.f))) ++ bt [32, 64]) ++ (bt (Lib.itoa a.pl)))
    simp only [bt_app]
    congr 1
    unfold text
    rw [if_pos hr, hk]
    simp [formOf, txts, txt, numOf, sgOf, numT_pos 6 a.f hB.f.1, numT_pos 8 a.pl hB.pl.1])
  have HB0 : Hid (Bk (w.alloc (.cells a.cs 25)) w.heap.size 25 a.cs) := Lib.hid (heap_alloc_new _ _)
  have HBA : Hid (Below w.heap.size w (w.alloc (.cells a.cs 25))) := Lib.hid ((Below.refl _ _).alloc (Nat.le_refl _) _)
  have HLT : Hid (w.heap.size < (w.alloc (.cells a.cs 25)).heap.size) := Lib.hid (by simp)
  have CR := Lib.hid (fun w => rright_any a w)
  rw [hr] at CR
  have CH : Hid (∀ w, Calls Tryd.prog 18 #[.agg a.cs] w fun e w' => e = .returned (.agg (hcs (true, false, true, false, false, false, false, false))) ∧ Below w.heap.size w w') := Lib.hid (fun w => by
    have := has_any a w
    rw [hk] at this
    exact this)
  have HF : Hid (∀ w', Bk w' w.heap.size 25 a.cs → w'.cell? ⟨w.heap.size, 0, none⟩ = some (.int .i64 4) ∧ w'.cell? ⟨w.heap.size, 1, none⟩ = some (.int .i64 a.x) ∧ w'.cell? ⟨w.heap.size, 2, none⟩ = some (.int .i64 a.y) ∧ w'.cell? ⟨w.heap.size, 3, none⟩ = some (.int .i64 a.f) ∧ w'.cell? ⟨w.heap.size, 4, none⟩ = some (.int .i64 a.t) ∧ w'.cell? ⟨w.heap.size, 5, none⟩ = some (.int .i64 a.pl) ∧ w'.cell? ⟨w.heap.size, 6, none⟩ = some (.int .i64 a.op) ∧ w'.cell? ⟨w.heap.size, 7, none⟩ = some (.int .i64 a.l.v) ∧ w'.cell? ⟨w.heap.size, 8, none⟩ = some (.int .i64 a.l.n) ∧ w'.cell? ⟨w.heap.size, 9, none⟩ = some (.int .i64 a.r.v) ∧ w'.cell? ⟨w.heap.size, 10, none⟩ = some (.int .i64 a.r.n) ∧ w'.cell? ⟨w.heap.size, 11, none⟩ = some (.bool a.sense)) := Lib.hid (fun w' hb => ⟨by rw [← hk]; exact hb.cell 0, hb.cell 1, hb.cell 2, hb.cell 3, hb.cell 4, hb.cell 5, hb.cell 6, hb.cell 7, hb.cell 8, hb.cell 9, hb.cell 10, hb.cell 11⟩)
  clear hr hB
  generalize bt (wordOf 4) = tw at *
  generalize bt (32 :: numT 1 a.x) = qx at *
  generalize bt (Lib.itoa a.f) = tf at *
  generalize bt (Lib.itoa a.pl) = tpl at *
  go_enter Tryd.func8, Tryd.ntmps8
  go_upto_region 1 with fail
  generalize w.alloc (.cells a.cs 25) = w1 at HB0 HBA HLT ⊢
  go_upto_region 3 with (first
    | ((with_reducible show wpList _ _ _ (Oper.mk _ (Op.load 25 _) _ _ _ _ :: _) _ _); refine wpList_load_bk rfl 25 _ rfl w.heap.size 25 a.cs rfl _ HB0.out Tryd.underlying25 rfl size25 ?_)
    | (go_at_call 6; refine (CR.out _).mono ?_; rintro e w2 ⟨rfl, hb⟩; have HB1 := Lib.hid hb; have HA1 := Lib.hid (HB0.out.below hb HLT.out); clear hb))
  go_upto_region 4 with (first
    | ((with_reducible show wpList _ _ _ (Oper.mk _ (Op.load 25 _) _ _ _ _ :: _) _ _); refine wpList_load_bk rfl 25 _ rfl w.heap.size 25 a.cs rfl _ HA1.out Tryd.underlying25 rfl size25 ?_)
    | (go_at_call 18; refine (CH.out _).mono ?_; rintro e wh ⟨rfl, hb⟩; have HBH := Lib.hid hb; have HA2 := Lib.hid (HA1.out.below hb HA1.out.lt); clear hb)
    | ((with_reducible show wpList _ _ _ (Oper.mk _ (Op.store 39 _ _) _ _ _ _ :: _) _ _); refine wpList_store_new rfl 39 _ _ rfl _ (hcs (true, false, true, false, false, false, false, false)) rfl rfl size39 rfl (hcs_one _) ?_))
  have HB2 : Hid (Below w.heap.size w (wh.alloc (.cells (hcs (true, false, true, false, false, false, false, false)) 39))) := Lib.hid (((HBA.out.trans (HB1.out.mono HBA.out.size)).trans (HBH.out.mono (Nat.le_trans HBA.out.size HB1.out.size))).alloc (Nat.le_trans HBA.out.size (Nat.le_trans HB1.out.size HBH.out.size)) _)
  have HA : Hid (Bk (wh.alloc (.cells (hcs (true, false, true, false, false, false, false, false)) 39)) w.heap.size 25 a.cs) := Lib.hid (HA2.out.below ((Below.refl _ _).alloc (Nat.le_refl _) _) HA2.out.lt)
  have HH : Hid (Bk (wh.alloc (.cells (hcs (true, false, true, false, false, false, false, false)) 39)) wh.heap.size 39 (hcs (true, false, true, false, false, false, false, false))) := Lib.hid (heap_alloc_new _ _)
  generalize wh.alloc (.cells (hcs (true, false, true, false, false, false, false, false)) 39) = w3 at HB2 HA HH ⊢
  generalize wh.heap.size = g at HH ⊢
  have HFA : Hid (∀ w', Below w3.heap.size w3 w' → w'.cell? ⟨w.heap.size, 0, none⟩ = some (.int .i64 4) ∧ w'.cell? ⟨w.heap.size, 1, none⟩ = some (.int .i64 a.x) ∧ w'.cell? ⟨w.heap.size, 2, none⟩ = some (.int .i64 a.y) ∧ w'.cell? ⟨w.heap.size, 3, none⟩ = some (.int .i64 a.f) ∧ w'.cell? ⟨w.heap.size, 4, none⟩ = some (.int .i64 a.t) ∧ w'.cell? ⟨w.heap.size, 5, none⟩ = some (.int .i64 a.pl) ∧ w'.cell? ⟨w.heap.size, 6, none⟩ = some (.int .i64 a.op) ∧ w'.cell? ⟨w.heap.size, 7, none⟩ = some (.int .i64 a.l.v) ∧ w'.cell? ⟨w.heap.size, 8, none⟩ = some (.int .i64 a.l.n) ∧ w'.cell? ⟨w.heap.size, 9, none⟩ = some (.int .i64 a.r.v) ∧ w'.cell? ⟨w.heap.size, 10, none⟩ = some (.int .i64 a.r.n) ∧ w'.cell? ⟨w.heap.size, 11, none⟩ = some (.bool a.sense)) := Lib.hid (fun w' hb => HF.out w' (HA.out.below hb HA.out.lt))
  have HFG : Hid (∀ w', Below w3.heap.size w3 w' → w'.cell? ⟨g, 0, none⟩ = some (.bool true) ∧ w'.cell? ⟨g, 1, none⟩ = some (.bool false) ∧ w'.cell? ⟨g, 2, none⟩ = some (.bool true) ∧ w'.cell? ⟨g, 3, none⟩ = some (.bool false) ∧ w'.cell? ⟨g, 4, none⟩ = some (.bool false) ∧ w'.cell? ⟨g, 5, none⟩ = some (.bool false) ∧ w'.cell? ⟨g, 6, none⟩ = some (.bool false) ∧ w'.cell? ⟨g, 7, none⟩ = some (.bool false)) := Lib.hid (fun w' hb => by
    have hk := HH.out.below hb HH.out.lt
    exact ⟨hk.cell 0, hk.cell 1, hk.cell 2, hk.cell 3, hk.cell 4, hk.cell 5, hk.cell 6, hk.cell 7⟩)
  have HBc : Hid (Below w3.heap.size w3 w3) := Lib.hid (Below.refl _ _)
  obtain ⟨c0, c1, c2, c3, c4, c5, c6, c7, c8, c9, c10, c11⟩ := HFA.out _ HBc.out
  clear hk
  go_wp2_with (first
    | (go_at_call 22; (with_reducible refine (HW.out _).mono ?_); rintro e wn ⟨rfl, hb⟩; have HBc := Lib.hid (HBc.out.trans (hb.mono HBc.out.size)); obtain ⟨c0, c1, c2, c3, c4, c5, c6, c7, c8, c9, c10, c11⟩ := HFA.out _ HBc.out; obtain ⟨d0, d1, d2, d3, d4, d5, d6, d7⟩ := HFG.out _ HBc.out; clear hb)
    | (go_at_call 24; (with_reducible refine (Px.out _).mono ?_); rintro e wn ⟨rfl, hb⟩; have HBc := Lib.hid (HBc.out.trans (hb.mono HBc.out.size)); obtain ⟨c0, c1, c2, c3, c4, c5, c6, c7, c8, c9, c10, c11⟩ := HFA.out _ HBc.out; obtain ⟨d0, d1, d2, d3, d4, d5, d6, d7⟩ := HFG.out _ HBc.out; clear hb)
    | (go_at_call 23; (with_reducible refine (Df.out _).mono ?_); rintro e wn ⟨rfl, hb⟩; have HBc := Lib.hid (HBc.out.trans (hb.mono HBc.out.size)); obtain ⟨c0, c1, c2, c3, c4, c5, c6, c7, c8, c9, c10, c11⟩ := HFA.out _ HBc.out; obtain ⟨d0, d1, d2, d3, d4, d5, d6, d7⟩ := HFG.out _ HBc.out; clear hb)
    | (go_at_call 23; (with_reducible refine (Dpl.out _).mono ?_); rintro e wn ⟨rfl, hb⟩; have HBc := Lib.hid (HBc.out.trans (hb.mono HBc.out.size)); obtain ⟨c0, c1, c2, c3, c4, c5, c6, c7, c8, c9, c10, c11⟩ := HFA.out _ HBc.out; obtain ⟨d0, d1, d2, d3, d4, d5, d6, d7⟩ := HFG.out _ HBc.out; clear hb))
  go_ret
  exact ⟨ret_text HT.out.symm, HB2.out.trans (HBc.out.mono HB2.out.size)⟩
set_option maxHeartbeats 3200000 in
set_option maxRecDepth 100000 in
theorem rtext_5 (a : Acn) (hk : a.kind = 5) (hr : rights a = true) (w : World) : Calls Tryd.prog 8 #[.agg a.cs] w fun e w' => e = .returned (.string (bt (text a))) ∧ Below w.heap.size w w' := by
  have hB := bounds a hr
  have Px := Lib.hid (fun w => pointer_any a.x hB.x.1 (by have := hB.x.2; omega) w)
  have zx := numT_size a.x hB.x.1 hB.x.2
  have Df := Lib.hid (fun w => dig_any a.f hB.f.1 (by have := hB.f.2; omega) w)
  have sf := itoa_size a.f (by have := hB.f.1; omega) (by have : a.f ≤ 999999999 := (by have := hB.f.2; omega); omega)
  have Py := Lib.hid (fun w => pointer_any a.y hB.y.1 (by have := hB.y.2; omega) w)
  have zy := numT_size a.y hB.y.1 hB.y.2
  have Dpl := Lib.hid (fun w => dig_any a.pl hB.pl.1 (by have := hB.pl.2; omega) w)
  have spl := itoa_size a.pl (by have := hB.pl.1; omega) (by have : a.pl ≤ 999999999 := (by have := hB.pl.2; omega); omega)
  have HW : Hid (∀ w, Calls Tryd.prog 22 #[.int .i64 5] w fun e w' => e = .returned (.string (bt (wordOf 5))) ∧ Below w.heap.size w w') := Lib.hid (fun w => word_any 5 (by decide) w)
  have sw : (bt (wordOf 5)).size ≤ 4 := word_len 5
  have HT : Hid (bt (text a) = (((((((bt (wordOf 5)) ++ (bt (32 :: numT 1 a.x))) ++ ⟨#[32, 102]⟩) ++ (bt (Lib.itoa a.f))) ++ (bt (32 :: numT 1 a.y))) ++ ⟨#[32, 64]⟩) ++ (bt (Lib.itoa a.pl)))) := Lib.hid (by
    show bt (text a) = (((((((bt (wordOf 5)) ++ (bt (32 :: numT 1 a.x))) ++ bt [32, 102]) ++ (bt (Lib.itoa a.f))) ++ (bt (32 :: numT 1 a.y))) ++ bt [32, 64]) ++ (bt (Lib.itoa a.pl)))
    simp only [bt_app]
    congr 1
    unfold text
    rw [if_pos hr, hk]
    simp [formOf, txts, txt, numOf, sgOf, numT_pos 6 a.f hB.f.1, numT_pos 8 a.pl hB.pl.1, numT_2])
  have HB0 : Hid (Bk (w.alloc (.cells a.cs 25)) w.heap.size 25 a.cs) := Lib.hid (heap_alloc_new _ _)
  have HBA : Hid (Below w.heap.size w (w.alloc (.cells a.cs 25))) := Lib.hid ((Below.refl _ _).alloc (Nat.le_refl _) _)
  have HLT : Hid (w.heap.size < (w.alloc (.cells a.cs 25)).heap.size) := Lib.hid (by simp)
  have CR := Lib.hid (fun w => rright_any a w)
  rw [hr] at CR
  have CH : Hid (∀ w, Calls Tryd.prog 18 #[.agg a.cs] w fun e w' => e = .returned (.agg (hcs (true, true, true, false, false, false, false, false))) ∧ Below w.heap.size w w') := Lib.hid (fun w => by
    have := has_any a w
    rw [hk] at this
    exact this)
  have HF : Hid (∀ w', Bk w' w.heap.size 25 a.cs → w'.cell? ⟨w.heap.size, 0, none⟩ = some (.int .i64 5) ∧ w'.cell? ⟨w.heap.size, 1, none⟩ = some (.int .i64 a.x) ∧ w'.cell? ⟨w.heap.size, 2, none⟩ = some (.int .i64 a.y) ∧ w'.cell? ⟨w.heap.size, 3, none⟩ = some (.int .i64 a.f) ∧ w'.cell? ⟨w.heap.size, 4, none⟩ = some (.int .i64 a.t) ∧ w'.cell? ⟨w.heap.size, 5, none⟩ = some (.int .i64 a.pl) ∧ w'.cell? ⟨w.heap.size, 6, none⟩ = some (.int .i64 a.op) ∧ w'.cell? ⟨w.heap.size, 7, none⟩ = some (.int .i64 a.l.v) ∧ w'.cell? ⟨w.heap.size, 8, none⟩ = some (.int .i64 a.l.n) ∧ w'.cell? ⟨w.heap.size, 9, none⟩ = some (.int .i64 a.r.v) ∧ w'.cell? ⟨w.heap.size, 10, none⟩ = some (.int .i64 a.r.n) ∧ w'.cell? ⟨w.heap.size, 11, none⟩ = some (.bool a.sense)) := Lib.hid (fun w' hb => ⟨by rw [← hk]; exact hb.cell 0, hb.cell 1, hb.cell 2, hb.cell 3, hb.cell 4, hb.cell 5, hb.cell 6, hb.cell 7, hb.cell 8, hb.cell 9, hb.cell 10, hb.cell 11⟩)
  clear hr hB
  generalize bt (wordOf 5) = tw at *
  generalize bt (32 :: numT 1 a.x) = qx at *
  generalize bt (Lib.itoa a.f) = tf at *
  generalize bt (32 :: numT 1 a.y) = qy at *
  generalize bt (Lib.itoa a.pl) = tpl at *
  go_enter Tryd.func8, Tryd.ntmps8
  go_upto_region 1 with fail
  generalize w.alloc (.cells a.cs 25) = w1 at HB0 HBA HLT ⊢
  go_upto_region 3 with (first
    | ((with_reducible show wpList _ _ _ (Oper.mk _ (Op.load 25 _) _ _ _ _ :: _) _ _); refine wpList_load_bk rfl 25 _ rfl w.heap.size 25 a.cs rfl _ HB0.out Tryd.underlying25 rfl size25 ?_)
    | (go_at_call 6; refine (CR.out _).mono ?_; rintro e w2 ⟨rfl, hb⟩; have HB1 := Lib.hid hb; have HA1 := Lib.hid (HB0.out.below hb HLT.out); clear hb))
  go_upto_region 4 with (first
    | ((with_reducible show wpList _ _ _ (Oper.mk _ (Op.load 25 _) _ _ _ _ :: _) _ _); refine wpList_load_bk rfl 25 _ rfl w.heap.size 25 a.cs rfl _ HA1.out Tryd.underlying25 rfl size25 ?_)
    | (go_at_call 18; refine (CH.out _).mono ?_; rintro e wh ⟨rfl, hb⟩; have HBH := Lib.hid hb; have HA2 := Lib.hid (HA1.out.below hb HA1.out.lt); clear hb)
    | ((with_reducible show wpList _ _ _ (Oper.mk _ (Op.store 39 _ _) _ _ _ _ :: _) _ _); refine wpList_store_new rfl 39 _ _ rfl _ (hcs (true, true, true, false, false, false, false, false)) rfl rfl size39 rfl (hcs_one _) ?_))
  have HB2 : Hid (Below w.heap.size w (wh.alloc (.cells (hcs (true, true, true, false, false, false, false, false)) 39))) := Lib.hid (((HBA.out.trans (HB1.out.mono HBA.out.size)).trans (HBH.out.mono (Nat.le_trans HBA.out.size HB1.out.size))).alloc (Nat.le_trans HBA.out.size (Nat.le_trans HB1.out.size HBH.out.size)) _)
  have HA : Hid (Bk (wh.alloc (.cells (hcs (true, true, true, false, false, false, false, false)) 39)) w.heap.size 25 a.cs) := Lib.hid (HA2.out.below ((Below.refl _ _).alloc (Nat.le_refl _) _) HA2.out.lt)
  have HH : Hid (Bk (wh.alloc (.cells (hcs (true, true, true, false, false, false, false, false)) 39)) wh.heap.size 39 (hcs (true, true, true, false, false, false, false, false))) := Lib.hid (heap_alloc_new _ _)
  generalize wh.alloc (.cells (hcs (true, true, true, false, false, false, false, false)) 39) = w3 at HB2 HA HH ⊢
  generalize wh.heap.size = g at HH ⊢
  have HFA : Hid (∀ w', Below w3.heap.size w3 w' → w'.cell? ⟨w.heap.size, 0, none⟩ = some (.int .i64 5) ∧ w'.cell? ⟨w.heap.size, 1, none⟩ = some (.int .i64 a.x) ∧ w'.cell? ⟨w.heap.size, 2, none⟩ = some (.int .i64 a.y) ∧ w'.cell? ⟨w.heap.size, 3, none⟩ = some (.int .i64 a.f) ∧ w'.cell? ⟨w.heap.size, 4, none⟩ = some (.int .i64 a.t) ∧ w'.cell? ⟨w.heap.size, 5, none⟩ = some (.int .i64 a.pl) ∧ w'.cell? ⟨w.heap.size, 6, none⟩ = some (.int .i64 a.op) ∧ w'.cell? ⟨w.heap.size, 7, none⟩ = some (.int .i64 a.l.v) ∧ w'.cell? ⟨w.heap.size, 8, none⟩ = some (.int .i64 a.l.n) ∧ w'.cell? ⟨w.heap.size, 9, none⟩ = some (.int .i64 a.r.v) ∧ w'.cell? ⟨w.heap.size, 10, none⟩ = some (.int .i64 a.r.n) ∧ w'.cell? ⟨w.heap.size, 11, none⟩ = some (.bool a.sense)) := Lib.hid (fun w' hb => HF.out w' (HA.out.below hb HA.out.lt))
  have HFG : Hid (∀ w', Below w3.heap.size w3 w' → w'.cell? ⟨g, 0, none⟩ = some (.bool true) ∧ w'.cell? ⟨g, 1, none⟩ = some (.bool true) ∧ w'.cell? ⟨g, 2, none⟩ = some (.bool true) ∧ w'.cell? ⟨g, 3, none⟩ = some (.bool false) ∧ w'.cell? ⟨g, 4, none⟩ = some (.bool false) ∧ w'.cell? ⟨g, 5, none⟩ = some (.bool false) ∧ w'.cell? ⟨g, 6, none⟩ = some (.bool false) ∧ w'.cell? ⟨g, 7, none⟩ = some (.bool false)) := Lib.hid (fun w' hb => by
    have hk := HH.out.below hb HH.out.lt
    exact ⟨hk.cell 0, hk.cell 1, hk.cell 2, hk.cell 3, hk.cell 4, hk.cell 5, hk.cell 6, hk.cell 7⟩)
  have HBc : Hid (Below w3.heap.size w3 w3) := Lib.hid (Below.refl _ _)
  obtain ⟨c0, c1, c2, c3, c4, c5, c6, c7, c8, c9, c10, c11⟩ := HFA.out _ HBc.out
  clear hk
  go_wp2_with (first
    | (go_at_call 22; (with_reducible refine (HW.out _).mono ?_); rintro e wn ⟨rfl, hb⟩; have HBc := Lib.hid (HBc.out.trans (hb.mono HBc.out.size)); obtain ⟨c0, c1, c2, c3, c4, c5, c6, c7, c8, c9, c10, c11⟩ := HFA.out _ HBc.out; obtain ⟨d0, d1, d2, d3, d4, d5, d6, d7⟩ := HFG.out _ HBc.out; clear hb)
    | (go_at_call 24; (with_reducible refine (Px.out _).mono ?_); rintro e wn ⟨rfl, hb⟩; have HBc := Lib.hid (HBc.out.trans (hb.mono HBc.out.size)); obtain ⟨c0, c1, c2, c3, c4, c5, c6, c7, c8, c9, c10, c11⟩ := HFA.out _ HBc.out; obtain ⟨d0, d1, d2, d3, d4, d5, d6, d7⟩ := HFG.out _ HBc.out; clear hb)
    | (go_at_call 23; (with_reducible refine (Df.out _).mono ?_); rintro e wn ⟨rfl, hb⟩; have HBc := Lib.hid (HBc.out.trans (hb.mono HBc.out.size)); obtain ⟨c0, c1, c2, c3, c4, c5, c6, c7, c8, c9, c10, c11⟩ := HFA.out _ HBc.out; obtain ⟨d0, d1, d2, d3, d4, d5, d6, d7⟩ := HFG.out _ HBc.out; clear hb)
    | (go_at_call 24; (with_reducible refine (Py.out _).mono ?_); rintro e wn ⟨rfl, hb⟩; have HBc := Lib.hid (HBc.out.trans (hb.mono HBc.out.size)); obtain ⟨c0, c1, c2, c3, c4, c5, c6, c7, c8, c9, c10, c11⟩ := HFA.out _ HBc.out; obtain ⟨d0, d1, d2, d3, d4, d5, d6, d7⟩ := HFG.out _ HBc.out; clear hb)
    | (go_at_call 23; (with_reducible refine (Dpl.out _).mono ?_); rintro e wn ⟨rfl, hb⟩; have HBc := Lib.hid (HBc.out.trans (hb.mono HBc.out.size)); obtain ⟨c0, c1, c2, c3, c4, c5, c6, c7, c8, c9, c10, c11⟩ := HFA.out _ HBc.out; obtain ⟨d0, d1, d2, d3, d4, d5, d6, d7⟩ := HFG.out _ HBc.out; clear hb))
  go_ret
  exact ⟨ret_text HT.out.symm, HB2.out.trans (HBc.out.mono HB2.out.size)⟩
end Go.Proofs.YtkieiclionkllaaDoor
