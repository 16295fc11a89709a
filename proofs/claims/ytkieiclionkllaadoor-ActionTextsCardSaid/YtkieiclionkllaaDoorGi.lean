/-
  DERIVED. The walk of the document's Text: more kinds.
-/
import Derived.Test.YtkieiclionkllaaDoorGg
namespace Go.Proofs.YtkieiclionkllaaDoor
open Go.RowKit Go.Sort
open Ac

set_option maxHeartbeats 3200000 in
set_option maxRecDepth 100000 in
theorem rtext_6 (a : Acn) (hk : a.kind = 6) (hr : rights a = true) (w : World) : Calls Tryd.prog 8 #[.agg a.cs] w fun e w' => e = .returned (.string (bt (text a))) ∧ Below w.heap.size w w' := by
  have hB := bounds a hr
  have Px := Lib.hid (fun w => pointer_any a.x hB.x.1 (by have := hB.x.2; omega) w)
  have zx := numT_size a.x hB.x.1 hB.x.2
  have Dt := Lib.hid (fun w => dig_any a.t hB.t.1 (by have := hB.t.2; omega) w)
  have st := itoa_size a.t (by have := hB.t.1; omega) (by have : a.t ≤ 999999999 := (by have := hB.t.2; omega); omega)
  have Dpl := Lib.hid (fun w => dig_any a.pl hB.pl.1 (by have := hB.pl.2; omega) w)
  have spl := itoa_size a.pl (by have := hB.pl.1; omega) (by have : a.pl ≤ 999999999 := (by have := hB.pl.2; omega); omega)
  have HW : Hid (∀ w, Calls Tryd.prog 22 #[.int .i64 6] w fun e w' => e = .returned (.string (bt (wordOf 6))) ∧ Below w.heap.size w w') := Lib.hid (fun w => word_any 6 (by decide) w)
  have sw : (bt (wordOf 6)).size ≤ 4 := word_len 6
  have HT : Hid (bt (text a) = ((((((bt (wordOf 6)) ++ (bt (32 :: numT 1 a.x))) ++ ⟨#[32, 115]⟩) ++ (bt (Lib.itoa a.t))) ++ ⟨#[32, 64]⟩) ++ (bt (Lib.itoa a.pl)))) := Lib.hid (by
    show bt (text a) = ((((((bt (wordOf 6)) ++ (bt (32 :: numT 1 a.x))) ++ bt [32, 115]) ++ (bt (Lib.itoa a.t))) ++ bt [32, 64]) ++ (bt (Lib.itoa a.pl)))
    simp only [bt_app]
    congr 1
    unfold text
    rw [if_pos hr, hk]
    simp [formOf, txts, txt, numOf, sgOf, numT_pos 7 a.t hB.t.1, numT_pos 8 a.pl hB.pl.1])
  have HB0 : Hid (Bk (w.alloc (.cells a.cs 25)) w.heap.size 25 a.cs) := Lib.hid (heap_alloc_new _ _)
  have HBA : Hid (Below w.heap.size w (w.alloc (.cells a.cs 25))) := Lib.hid ((Below.refl _ _).alloc (Nat.le_refl _) _)
  have HLT : Hid (w.heap.size < (w.alloc (.cells a.cs 25)).heap.size) := Lib.hid (by simp)
  have CR := Lib.hid (fun w => rright_any a w)
  rw [hr] at CR
  have CH : Hid (∀ w, Calls Tryd.prog 18 #[.agg a.cs] w fun e w' => e = .returned (.agg (hcs (true, false, false, true, false, false, false, false))) ∧ Below w.heap.size w w') := Lib.hid (fun w => by
    have := has_any a w
    rw [hk] at this
    exact this)
  have HF : Hid (∀ w', Bk w' w.heap.size 25 a.cs → w'.cell? ⟨w.heap.size, 0, none⟩ = some (.int .i64 6) ∧ w'.cell? ⟨w.heap.size, 1, none⟩ = some (.int .i64 a.x) ∧ w'.cell? ⟨w.heap.size, 2, none⟩ = some (.int .i64 a.y) ∧ w'.cell? ⟨w.heap.size, 3, none⟩ = some (.int .i64 a.f) ∧ w'.cell? ⟨w.heap.size, 4, none⟩ = some (.int .i64 a.t) ∧ w'.cell? ⟨w.heap.size, 5, none⟩ = some (.int .i64 a.pl) ∧ w'.cell? ⟨w.heap.size, 6, none⟩ = some (.int .i64 a.op) ∧ w'.cell? ⟨w.heap.size, 7, none⟩ = some (.int .i64 a.l.v) ∧ w'.cell? ⟨w.heap.size, 8, none⟩ = some (.int .i64 a.l.n) ∧ w'.cell? ⟨w.heap.size, 9, none⟩ = some (.int .i64 a.r.v) ∧ w'.cell? ⟨w.heap.size, 10, none⟩ = some (.int .i64 a.r.n) ∧ w'.cell? ⟨w.heap.size, 11, none⟩ = some (.bool a.sense)) := Lib.hid (fun w' hb => ⟨by rw [← hk]; exact hb.cell 0, hb.cell 1, hb.cell 2, hb.cell 3, hb.cell 4, hb.cell 5, hb.cell 6, hb.cell 7, hb.cell 8, hb.cell 9, hb.cell 10, hb.cell 11⟩)
  clear hr hB
  generalize bt (wordOf 6) = tw at *
  generalize bt (32 :: numT 1 a.x) = qx at *
  generalize bt (Lib.itoa a.t) = tt at *
  generalize bt (Lib.itoa a.pl) = tpl at *
  go_enter Tryd.func8, Tryd.ntmps8
  go_upto_region 1 with fail
  generalize w.alloc (.cells a.cs 25) = w1 at HB0 HBA HLT ⊢
  go_upto_region 3 with (first
    | ((with_reducible show wpList _ _ _ (Oper.mk _ (Op.load 25 _) _ _ _ _ :: _) _ _); refine wpList_load_bk rfl 25 _ rfl w.heap.size 25 a.cs rfl _ HB0.out Tryd.underlying25 rfl size25 ?_)
    | (go_at_call 6; refine (CR.out _).mono ?_; rintro e w2 ⟨rfl, hb⟩; have HB1 := Lib.hid hb; have HA1 := Lib.hid (HB0.out.below hb HLT.out); clear hb))
  go_upto_region 4 with (first
    | ((with_reducible show wpList _ _ _ (Oper.mk _ (Op.load 25 _) _ _ _ _ :: _) _ _); refine wpList_load_bk rfl 25 _ rfl w.heap.size 25 a.cs rfl _ HA1.out Tryd.underlying25 rfl size25 ?_)
    | (go_at_call 18; refine (CH.out _).mono ?_; rintro e wh ⟨rfl, hb⟩; have HBH := Lib.hid hb; have HA2 := Lib.hid (HA1.out.below hb HA1.out.lt); clear hb)
    | ((with_reducible show wpList _ _ _ (Oper.mk _ (Op.store 39 _ _) _ _ _ _ :: _) _ _); refine wpList_store_new rfl 39 _ _ rfl _ (hcs (true, false, false, true, false, false, false, false)) rfl rfl size39 rfl (hcs_one _) ?_))
  have HB2 : Hid (Below w.heap.size w (wh.alloc (.cells (hcs (true, false, false, true, false, false, false, false)) 39))) := Lib.hid (((HBA.out.trans (HB1.out.mono HBA.out.size)).trans (HBH.out.mono (Nat.le_trans HBA.out.size HB1.out.size))).alloc (Nat.le_trans HBA.out.size (Nat.le_trans HB1.out.size HBH.out.size)) _)
  have HA : Hid (Bk (wh.alloc (.cells (hcs (true, false, false, true, false, false, false, false)) 39)) w.heap.size 25 a.cs) := Lib.hid (HA2.out.below ((Below.refl _ _).alloc (Nat.le_refl _) _) HA2.out.lt)
  have HH : Hid (Bk (wh.alloc (.cells (hcs (true, false, false, true, false, false, false, false)) 39)) wh.heap.size 39 (hcs (true, false, false, true, false, false, false, false))) := Lib.hid (heap_alloc_new _ _)
  generalize wh.alloc (.cells (hcs (true, false, false, true, false, false, false, false)) 39) = w3 at HB2 HA HH ⊢
  generalize wh.heap.size = g at HH ⊢
  have HFA : Hid (∀ w', Below w3.heap.size w3 w' → w'.cell? ⟨w.heap.size, 0, none⟩ = some (.int .i64 6) ∧ w'.cell? ⟨w.heap.size, 1, none⟩ = some (.int .i64 a.x) ∧ w'.cell? ⟨w.heap.size, 2, none⟩ = some (.int .i64 a.y) ∧ w'.cell? ⟨w.heap.size, 3, none⟩ = some (.int .i64 a.f) ∧ w'.cell? ⟨w.heap.size, 4, none⟩ = some (.int .i64 a.t) ∧ w'.cell? ⟨w.heap.size, 5, none⟩ = some (.int .i64 a.pl) ∧ w'.cell? ⟨w.heap.size, 6, none⟩ = some (.int .i64 a.op) ∧ w'.cell? ⟨w.heap.size, 7, none⟩ = some (.int .i64 a.l.v) ∧ w'.cell? ⟨w.heap.size, 8, none⟩ = some (.int .i64 a.l.n) ∧ w'.cell? ⟨w.heap.size, 9, none⟩ = some (.int .i64 a.r.v) ∧ w'.cell? ⟨w.heap.size, 10, none⟩ = some (.int .i64 a.r.n) ∧ w'.cell? ⟨w.heap.size, 11, none⟩ = some (.bool a.sense)) := Lib.hid (fun w' hb => HF.out w' (HA.out.below hb HA.out.lt))
  have HFG : Hid (∀ w', Below w3.heap.size w3 w' → w'.cell? ⟨g, 0, none⟩ = some (.bool true) ∧ w'.cell? ⟨g, 1, none⟩ = some (.bool false) ∧ w'.cell? ⟨g, 2, none⟩ = some (.bool false) ∧ w'.cell? ⟨g, 3, none⟩ = some (.bool true) ∧ w'.cell? ⟨g, 4, none⟩ = some (.bool false) ∧ w'.cell? ⟨g, 5, none⟩ = some (.bool false) ∧ w'.cell? ⟨g, 6, none⟩ = some (.bool false) ∧ w'.cell? ⟨g, 7, none⟩ = some (.bool false)) := Lib.hid (fun w' hb => by
    have hk := HH.out.below hb HH.out.lt
    exact ⟨hk.cell 0, hk.cell 1, hk.cell 2, hk.cell 3, hk.cell 4, hk.cell 5, hk.cell 6, hk.cell 7⟩)
  have HBc : Hid (Below w3.heap.size w3 w3) := Lib.hid (Below.refl _ _)
  obtain ⟨c0, c1, c2, c3, c4, c5, c6, c7, c8, c9, c10, c11⟩ := HFA.out _ HBc.out
  clear hk
  go_wp2_with (first
    | (go_at_call 22; (with_reducible refine (HW.out _).mono ?_); rintro e wn ⟨rfl, hb⟩; have HBc := Lib.hid (HBc.out.trans (hb.mono HBc.out.size)); obtain ⟨c0, c1, c2, c3, c4, c5, c6, c7, c8, c9, c10, c11⟩ := HFA.out _ HBc.out; obtain ⟨d0, d1, d2, d3, d4, d5, d6, d7⟩ := HFG.out _ HBc.out; clear hb)
    | (go_at_call 24; (with_reducible refine (Px.out _).mono ?_); rintro e wn ⟨rfl, hb⟩; have HBc := Lib.hid (HBc.out.trans (hb.mono HBc.out.size)); obtain ⟨c0, c1, c2, c3, c4, c5, c6, c7, c8, c9, c10, c11⟩ := HFA.out _ HBc.out; obtain ⟨d0, d1, d2, d3, d4, d5, d6, d7⟩ := HFG.out _ HBc.out; clear hb)
    | (go_at_call 23; (with_reducible refine (Dt.out _).mono ?_); rintro e wn ⟨rfl, hb⟩; have HBc := Lib.hid (HBc.out.trans (hb.mono HBc.out.size)); obtain ⟨c0, c1, c2, c3, c4, c5, c6, c7, c8, c9, c10, c11⟩ := HFA.out _ HBc.out; obtain ⟨d0, d1, d2, d3, d4, d5, d6, d7⟩ := HFG.out _ HBc.out; clear hb)
    | (go_at_call 23; (with_reducible refine (Dpl.out _).mono ?_); rintro e wn ⟨rfl, hb⟩; have HBc := Lib.hid (HBc.out.trans (hb.mono HBc.out.size)); obtain ⟨c0, c1, c2, c3, c4, c5, c6, c7, c8, c9, c10, c11⟩ := HFA.out _ HBc.out; obtain ⟨d0, d1, d2, d3, d4, d5, d6, d7⟩ := HFG.out _ HBc.out; clear hb))
  go_ret
  exact ⟨ret_text HT.out.symm, HB2.out.trans (HBc.out.mono HB2.out.size)⟩
set_option maxHeartbeats 3200000 in
set_option maxRecDepth 100000 in
theorem rtext_7 (a : Acn) (hk : a.kind = 7) (hr : rights a = true) (w : World) : Calls Tryd.prog 8 #[.agg a.cs] w fun e w' => e = .returned (.string (bt (text a))) ∧ Below w.heap.size w w' := by
  have hB := bounds a hr
  have Px := Lib.hid (fun w => pointer_any a.x hB.x.1 (by have := hB.x.2; omega) w)
  have zx := numT_size a.x hB.x.1 hB.x.2
  have Dpl := Lib.hid (fun w => dig_any a.pl hB.pl.1 (by have := hB.pl.2; omega) w)
  have spl := itoa_size a.pl (by have := hB.pl.1; omega) (by have : a.pl ≤ 999999999 := (by have := hB.pl.2; omega); omega)
  have HW : Hid (∀ w, Calls Tryd.prog 22 #[.int .i64 7] w fun e w' => e = .returned (.string (bt (wordOf 7))) ∧ Below w.heap.size w w') := Lib.hid (fun w => word_any 7 (by decide) w)
  have sw : (bt (wordOf 7)).size ≤ 4 := word_len 7
  have HT : Hid (bt (text a) = ((((bt (wordOf 7)) ++ (bt (32 :: numT 1 a.x))) ++ ⟨#[32, 64]⟩) ++ (bt (Lib.itoa a.pl)))) := Lib.hid (by
    show bt (text a) = ((((bt (wordOf 7)) ++ (bt (32 :: numT 1 a.x))) ++ bt [32, 64]) ++ (bt (Lib.itoa a.pl)))
    simp only [bt_app]
    congr 1
    unfold text
    rw [if_pos hr, hk]
    simp [formOf, txts, txt, numOf, sgOf, numT_pos 8 a.pl hB.pl.1])
  have HB0 : Hid (Bk (w.alloc (.cells a.cs 25)) w.heap.size 25 a.cs) := Lib.hid (heap_alloc_new _ _)
  have HBA : Hid (Below w.heap.size w (w.alloc (.cells a.cs 25))) := Lib.hid ((Below.refl _ _).alloc (Nat.le_refl _) _)
  have HLT : Hid (w.heap.size < (w.alloc (.cells a.cs 25)).heap.size) := Lib.hid (by simp)
  have CR := Lib.hid (fun w => rright_any a w)
  rw [hr] at CR
  have CH : Hid (∀ w, Calls Tryd.prog 18 #[.agg a.cs] w fun e w' => e = .returned (.agg (hcs (true, false, false, false, false, false, false, false))) ∧ Below w.heap.size w w') := Lib.hid (fun w => by
    have := has_any a w
    rw [hk] at this
    exact this)
  have HF : Hid (∀ w', Bk w' w.heap.size 25 a.cs → w'.cell? ⟨w.heap.size, 0, none⟩ = some (.int .i64 7) ∧ w'.cell? ⟨w.heap.size, 1, none⟩ = some (.int .i64 a.x) ∧ w'.cell? ⟨w.heap.size, 2, none⟩ = some (.int .i64 a.y) ∧ w'.cell? ⟨w.heap.size, 3, none⟩ = some (.int .i64 a.f) ∧ w'.cell? ⟨w.heap.size, 4, none⟩ = some (.int .i64 a.t) ∧ w'.cell? ⟨w.heap.size, 5, none⟩ = some (.int .i64 a.pl) ∧ w'.cell? ⟨w.heap.size, 6, none⟩ = some (.int .i64 a.op) ∧ w'.cell? ⟨w.heap.size, 7, none⟩ = some (.int .i64 a.l.v) ∧ w'.cell? ⟨w.heap.size, 8, none⟩ = some (.int .i64 a.l.n) ∧ w'.cell? ⟨w.heap.size, 9, none⟩ = some (.int .i64 a.r.v) ∧ w'.cell? ⟨w.heap.size, 10, none⟩ = some (.int .i64 a.r.n) ∧ w'.cell? ⟨w.heap.size, 11, none⟩ = some (.bool a.sense)) := Lib.hid (fun w' hb => ⟨by rw [← hk]; exact hb.cell 0, hb.cell 1, hb.cell 2, hb.cell 3, hb.cell 4, hb.cell 5, hb.cell 6, hb.cell 7, hb.cell 8, hb.cell 9, hb.cell 10, hb.cell 11⟩)
  clear hr hB
  generalize bt (wordOf 7) = tw at *
  generalize bt (32 :: numT 1 a.x) = qx at *
  generalize bt (Lib.itoa a.pl) = tpl at *
  go_enter Tryd.func8, Tryd.ntmps8
  go_upto_region 1 with fail
  generalize w.alloc (.cells a.cs 25) = w1 at HB0 HBA HLT ⊢
  go_upto_region 3 with (first
    | ((with_reducible show wpList _ _ _ (Oper.mk _ (Op.load 25 _) _ _ _ _ :: _) _ _); refine wpList_load_bk rfl 25 _ rfl w.heap.size 25 a.cs rfl _ HB0.out Tryd.underlying25 rfl size25 ?_)
    | (go_at_call 6; refine (CR.out _).mono ?_; rintro e w2 ⟨rfl, hb⟩; have HB1 := Lib.hid hb; have HA1 := Lib.hid (HB0.out.below hb HLT.out); clear hb))
  go_upto_region 4 with (first
    | ((with_reducible show wpList _ _ _ (Oper.mk _ (Op.load 25 _) _ _ _ _ :: _) _ _); refine wpList_load_bk rfl 25 _ rfl w.heap.size 25 a.cs rfl _ HA1.out Tryd.underlying25 rfl size25 ?_)
    | (go_at_call 18; refine (CH.out _).mono ?_; rintro e wh ⟨rfl, hb⟩; have HBH := Lib.hid hb; have HA2 := Lib.hid (HA1.out.below hb HA1.out.lt); clear hb)
    | ((with_reducible show wpList _ _ _ (Oper.mk _ (Op.store 39 _ _) _ _ _ _ :: _) _ _); refine wpList_store_new rfl 39 _ _ rfl _ (hcs (true, false, false, false, false, false, false, false)) rfl rfl size39 rfl (hcs_one _) ?_))
  have HB2 : Hid (Below w.heap.size w (wh.alloc (.cells (hcs (true, false, false, false, false, false, false, false)) 39))) := Lib.hid (((HBA.out.trans (HB1.out.mono HBA.out.size)).trans (HBH.out.mono (Nat.le_trans HBA.out.size HB1.out.size))).alloc (Nat.le_trans HBA.out.size (Nat.le_trans HB1.out.size HBH.out.size)) _)
  have HA : Hid (Bk (wh.alloc (.cells (hcs (true, false, false, false, false, false, false, false)) 39)) w.heap.size 25 a.cs) := Lib.hid (HA2.out.below ((Below.refl _ _).alloc (Nat.le_refl _) _) HA2.out.lt)
  have HH : Hid (Bk (wh.alloc (.cells (hcs (true, false, false, false, false, false, false, false)) 39)) wh.heap.size 39 (hcs (true, false, false, false, false, false, false, false))) := Lib.hid (heap_alloc_new _ _)
  generalize wh.alloc (.cells (hcs (true, false, false, false, false, false, false, false)) 39) = w3 at HB2 HA HH ⊢
  generalize wh.heap.size = g at HH ⊢
  have HFA : Hid (∀ w', Below w3.heap.size w3 w' → w'.cell? ⟨w.heap.size, 0, none⟩ = some (.int .i64 7) ∧ w'.cell? ⟨w.heap.size, 1, none⟩ = some (.int .i64 a.x) ∧ w'.cell? ⟨w.heap.size, 2, none⟩ = some (.int .i64 a.y) ∧ w'.cell? ⟨w.heap.size, 3, none⟩ = some (.int .i64 a.f) ∧ w'.cell? ⟨w.heap.size, 4, none⟩ = some (.int .i64 a.t) ∧ w'.cell? ⟨w.heap.size, 5, none⟩ = some (.int .i64 a.pl) ∧ w'.cell? ⟨w.heap.size, 6, none⟩ = some (.int .i64 a.op) ∧ w'.cell? ⟨w.heap.size, 7, none⟩ = some (.int .i64 a.l.v) ∧ w'.cell? ⟨w.heap.size, 8, none⟩ = some (.int .i64 a.l.n) ∧ w'.cell? ⟨w.heap.size, 9, none⟩ = some (.int .i64 a.r.v) ∧ w'.cell? ⟨w.heap.size, 10, none⟩ = some (.int .i64 a.r.n) ∧ w'.cell? ⟨w.heap.size, 11, none⟩ = some (.bool a.sense)) := Lib.hid (fun w' hb => HF.out w' (HA.out.below hb HA.out.lt))
  have HFG : Hid (∀ w', Below w3.heap.size w3 w' → w'.cell? ⟨g, 0, none⟩ = some (.bool true) ∧ w'.cell? ⟨g, 1, none⟩ = some (.bool false) ∧ w'.cell? ⟨g, 2, none⟩ = some (.bool false) ∧ w'.cell? ⟨g, 3, none⟩ = some (.bool false) ∧ w'.cell? ⟨g, 4, none⟩ = some (.bool false) ∧ w'.cell? ⟨g, 5, none⟩ = some (.bool false) ∧ w'.cell? ⟨g, 6, none⟩ = some (.bool false) ∧ w'.cell? ⟨g, 7, none⟩ = some (.bool false)) := Lib.hid (fun w' hb => by
    have hk := HH.out.below hb HH.out.lt
    exact ⟨hk.cell 0, hk.cell 1, hk.cell 2, hk.cell 3, hk.cell 4, hk.cell 5, hk.cell 6, hk.cell 7⟩)
  have HBc : Hid (Below w3.heap.size w3 w3) := Lib.hid (Below.refl _ _)
  obtain ⟨c0, c1, c2, c3, c4, c5, c6, c7, c8, c9, c10, c11⟩ := HFA.out _ HBc.out
  clear hk
  go_wp2_with (first
    | (go_at_call 22; (with_reducible refine (HW.out _).mono ?_); rintro e wn ⟨rfl, hb⟩; have HBc := Lib.hid (HBc.out.trans (hb.mono HBc.out.size)); obtain ⟨c0, c1, c2, c3, c4, c5, c6, c7, c8, c9, c10, c11⟩ := HFA.out _ HBc.out; obtain ⟨d0, d1, d2, d3, d4, d5, d6, d7⟩ := HFG.out _ HBc.out; clear hb)
    | (go_at_call 24; (with_reducible refine (Px.out _).mono ?_); rintro e wn ⟨rfl, hb⟩; have HBc := Lib.hid (HBc.out.trans (hb.mono HBc.out.size)); obtain ⟨c0, c1, c2, c3, c4, c5, c6, c7, c8, c9, c10, c11⟩ := HFA.out _ HBc.out; obtain ⟨d0, d1, d2, d3, d4, d5, d6, d7⟩ := HFG.out _ HBc.out; clear hb)
    | (go_at_call 23; (with_reducible refine (Dpl.out _).mono ?_); rintro e wn ⟨rfl, hb⟩; have HBc := Lib.hid (HBc.out.trans (hb.mono HBc.out.size)); obtain ⟨c0, c1, c2, c3, c4, c5, c6, c7, c8, c9, c10, c11⟩ := HFA.out _ HBc.out; obtain ⟨d0, d1, d2, d3, d4, d5, d6, d7⟩ := HFG.out _ HBc.out; clear hb))
  go_ret
  exact ⟨ret_text HT.out.symm, HB2.out.trans (HBc.out.mono HB2.out.size)⟩
set_option maxHeartbeats 3200000 in
set_option maxRecDepth 100000 in
theorem rtext_10 (a : Acn) (hk : a.kind = 10) (hr : rights a = true) (w : World) : Calls Tryd.prog 8 #[.agg a.cs] w fun e w' => e = .returned (.string (bt (text a))) ∧ Below w.heap.size w w' := by
  have hB := bounds a hr
  have gx : 0 ≤ a.x := hB.x0 (by rw [hk]; decide)
  have Dx := Lib.hid (fun w => dig_any a.x gx (by have := hB.x.2; omega) w)
  have sx := itoa_size a.x (by have := gx; omega) (by have : a.x ≤ 999999999 := (by have := hB.x.2; omega); omega)
  have Dpl := Lib.hid (fun w => dig_any a.pl hB.pl.1 (by have := hB.pl.2; omega) w)
  have spl := itoa_size a.pl (by have := hB.pl.1; omega) (by have : a.pl ≤ 999999999 := (by have := hB.pl.2; omega); omega)
  have HW : Hid (∀ w, Calls Tryd.prog 22 #[.int .i64 10] w fun e w' => e = .returned (.string (bt (wordOf 10))) ∧ Below w.heap.size w w') := Lib.hid (fun w => word_any 10 (by decide) w)
  have sw : (bt (wordOf 10)).size ≤ 4 := word_len 10
  have HT : Hid (bt (text a) = (((((bt (wordOf 10)) ++ ⟨#[32, 105]⟩) ++ (bt (Lib.itoa a.x))) ++ ⟨#[32, 64]⟩) ++ (bt (Lib.itoa a.pl)))) := Lib.hid (by
    show bt (text a) = (((((bt (wordOf 10)) ++ bt [32, 105]) ++ (bt (Lib.itoa a.x))) ++ bt [32, 64]) ++ (bt (Lib.itoa a.pl)))
    simp only [bt_app]
    congr 1
    unfold text
    rw [if_pos hr, hk]
    simp [formOf, txts, txt, numOf, sgOf, numT_pos 5 a.x gx, numT_pos 8 a.pl hB.pl.1])
  have HB0 : Hid (Bk (w.alloc (.cells a.cs 25)) w.heap.size 25 a.cs) := Lib.hid (heap_alloc_new _ _)
  have HBA : Hid (Below w.heap.size w (w.alloc (.cells a.cs 25))) := Lib.hid ((Below.refl _ _).alloc (Nat.le_refl _) _)
  have HLT : Hid (w.heap.size < (w.alloc (.cells a.cs 25)).heap.size) := Lib.hid (by simp)
  have CR := Lib.hid (fun w => rright_any a w)
  rw [hr] at CR
  have CH : Hid (∀ w, Calls Tryd.prog 18 #[.agg a.cs] w fun e w' => e = .returned (.agg (hcs (true, false, false, false, false, false, false, false))) ∧ Below w.heap.size w w') := Lib.hid (fun w => by
    have := has_any a w
    rw [hk] at this
    exact this)
  have HF : Hid (∀ w', Bk w' w.heap.size 25 a.cs → w'.cell? ⟨w.heap.size, 0, none⟩ = some (.int .i64 10) ∧ w'.cell? ⟨w.heap.size, 1, none⟩ = some (.int .i64 a.x) ∧ w'.cell? ⟨w.heap.size, 2, none⟩ = some (.int .i64 a.y) ∧ w'.cell? ⟨w.heap.size, 3, none⟩ = some (.int .i64 a.f) ∧ w'.cell? ⟨w.heap.size, 4, none⟩ = some (.int .i64 a.t) ∧ w'.cell? ⟨w.heap.size, 5, none⟩ = some (.int .i64 a.pl) ∧ w'.cell? ⟨w.heap.size, 6, none⟩ = some (.int .i64 a.op) ∧ w'.cell? ⟨w.heap.size, 7, none⟩ = some (.int .i64 a.l.v) ∧ w'.cell? ⟨w.heap.size, 8, none⟩ = some (.int .i64 a.l.n) ∧ w'.cell? ⟨w.heap.size, 9, none⟩ = some (.int .i64 a.r.v) ∧ w'.cell? ⟨w.heap.size, 10, none⟩ = some (.int .i64 a.r.n) ∧ w'.cell? ⟨w.heap.size, 11, none⟩ = some (.bool a.sense)) := Lib.hid (fun w' hb => ⟨by rw [← hk]; exact hb.cell 0, hb.cell 1, hb.cell 2, hb.cell 3, hb.cell 4, hb.cell 5, hb.cell 6, hb.cell 7, hb.cell 8, hb.cell 9, hb.cell 10, hb.cell 11⟩)
  clear hr hB gx
  generalize bt (wordOf 10) = tw at *
  generalize bt (Lib.itoa a.x) = tx at *
  generalize bt (Lib.itoa a.pl) = tpl at *
  go_enter Tryd.func8, Tryd.ntmps8
  go_upto_region 1 with fail
  generalize w.alloc (.cells a.cs 25) = w1 at HB0 HBA HLT ⊢
  go_upto_region 3 with (first
    | ((with_reducible show wpList _ _ _ (Oper.mk _ (Op.load 25 _) _ _ _ _ :: _) _ _); refine wpList_load_bk rfl 25 _ rfl w.heap.size 25 a.cs rfl _ HB0.out Tryd.underlying25 rfl size25 ?_)
    | (go_at_call 6; refine (CR.out _).mono ?_; rintro e w2 ⟨rfl, hb⟩; have HB1 := Lib.hid hb; have HA1 := Lib.hid (HB0.out.below hb HLT.out); clear hb))
  go_upto_region 4 with (first
    | ((with_reducible show wpList _ _ _ (Oper.mk _ (Op.load 25 _) _ _ _ _ :: _) _ _); refine wpList_load_bk rfl 25 _ rfl w.heap.size 25 a.cs rfl _ HA1.out Tryd.underlying25 rfl size25 ?_)
    | (go_at_call 18; refine (CH.out _).mono ?_; rintro e wh ⟨rfl, hb⟩; have HBH := Lib.hid hb; have HA2 := Lib.hid (HA1.out.below hb HA1.out.lt); clear hb)
    | ((with_reducible show wpList _ _ _ (Oper.mk _ (Op.store 39 _ _) _ _ _ _ :: _) _ _); refine wpList_store_new rfl 39 _ _ rfl _ (hcs (true, false, false, false, false, false, false, false)) rfl rfl size39 rfl (hcs_one _) ?_))
  have HB2 : Hid (Below w.heap.size w (wh.alloc (.cells (hcs (true, false, false, false, false, false, false, false)) 39))) := Lib.hid (((HBA.out.trans (HB1.out.mono HBA.out.size)).trans (HBH.out.mono (Nat.le_trans HBA.out.size HB1.out.size))).alloc (Nat.le_trans HBA.out.size (Nat.le_trans HB1.out.size HBH.out.size)) _)
  have HA : Hid (Bk (wh.alloc (.cells (hcs (true, false, false, false, false, false, false, false)) 39)) w.heap.size 25 a.cs) := Lib.hid (HA2.out.below ((Below.refl _ _).alloc (Nat.le_refl _) _) HA2.out.lt)
  have HH : Hid (Bk (wh.alloc (.cells (hcs (true, false, false, false, false, false, false, false)) 39)) wh.heap.size 39 (hcs (true, false, false, false, false, false, false, false))) := Lib.hid (heap_alloc_new _ _)
  generalize wh.alloc (.cells (hcs (true, false, false, false, false, false, false, false)) 39) = w3 at HB2 HA HH ⊢
  generalize wh.heap.size = g at HH ⊢
  have HFA : Hid (∀ w', Below w3.heap.size w3 w' → w'.cell? ⟨w.heap.size, 0, none⟩ = some (.int .i64 10) ∧ w'.cell? ⟨w.heap.size, 1, none⟩ = some (.int .i64 a.x) ∧ w'.cell? ⟨w.heap.size, 2, none⟩ = some (.int .i64 a.y) ∧ w'.cell? ⟨w.heap.size, 3, none⟩ = some (.int .i64 a.f) ∧ w'.cell? ⟨w.heap.size, 4, none⟩ = some (.int .i64 a.t) ∧ w'.cell? ⟨w.heap.size, 5, none⟩ = some (.int .i64 a.pl) ∧ w'.cell? ⟨w.heap.size, 6, none⟩ = some (.int .i64 a.op) ∧ w'.cell? ⟨w.heap.size, 7, none⟩ = some (.int .i64 a.l.v) ∧ w'.cell? ⟨w.heap.size, 8, none⟩ = some (.int .i64 a.l.n) ∧ w'.cell? ⟨w.heap.size, 9, none⟩ = some (.int .i64 a.r.v) ∧ w'.cell? ⟨w.heap.size, 10, none⟩ = some (.int .i64 a.r.n) ∧ w'.cell? ⟨w.heap.size, 11, none⟩ = some (.bool a.sense)) := Lib.hid (fun w' hb => HF.out w' (HA.out.below hb HA.out.lt))
  have HFG : Hid (∀ w', Below w3.heap.size w3 w' → w'.cell? ⟨g, 0, none⟩ = some (.bool true) ∧ w'.cell? ⟨g, 1, none⟩ = some (.bool false) ∧ w'.cell? ⟨g, 2, none⟩ = some (.bool false) ∧ w'.cell? ⟨g, 3, none⟩ = some (.bool false) ∧ w'.cell? ⟨g, 4, none⟩ = some (.bool false) ∧ w'.cell? ⟨g, 5, none⟩ = some (.bool false) ∧ w'.cell? ⟨g, 6, none⟩ = some (.bool false) ∧ w'.cell? ⟨g, 7, none⟩ = some (.bool false)) := Lib.hid (fun w' hb => by
    have hk := HH.out.below hb HH.out.lt
    exact ⟨hk.cell 0, hk.cell 1, hk.cell 2, hk.cell 3, hk.cell 4, hk.cell 5, hk.cell 6, hk.cell 7⟩)
  have HBc : Hid (Below w3.heap.size w3 w3) := Lib.hid (Below.refl _ _)
  obtain ⟨c0, c1, c2, c3, c4, c5, c6, c7, c8, c9, c10, c11⟩ := HFA.out _ HBc.out
  clear hk
  go_wp2_with (first
    | (go_at_call 22; (with_reducible refine (HW.out _).mono ?_); rintro e wn ⟨rfl, hb⟩; have HBc := Lib.hid (HBc.out.trans (hb.mono HBc.out.size)); obtain ⟨c0, c1, c2, c3, c4, c5, c6, c7, c8, c9, c10, c11⟩ := HFA.out _ HBc.out; obtain ⟨d0, d1, d2, d3, d4, d5, d6, d7⟩ := HFG.out _ HBc.out; clear hb)
    | (go_at_call 23; (with_reducible refine (Dx.out _).mono ?_); rintro e wn ⟨rfl, hb⟩; have HBc := Lib.hid (HBc.out.trans (hb.mono HBc.out.size)); obtain ⟨c0, c1, c2, c3, c4, c5, c6, c7, c8, c9, c10, c11⟩ := HFA.out _ HBc.out; obtain ⟨d0, d1, d2, d3, d4, d5, d6, d7⟩ := HFG.out _ HBc.out; clear hb)
    | (go_at_call 23; (with_reducible refine (Dpl.out _).mono ?_); rintro e wn ⟨rfl, hb⟩; have HBc := Lib.hid (HBc.out.trans (hb.mono HBc.out.size)); obtain ⟨c0, c1, c2, c3, c4, c5, c6, c7, c8, c9, c10, c11⟩ := HFA.out _ HBc.out; obtain ⟨d0, d1, d2, d3, d4, d5, d6, d7⟩ := HFG.out _ HBc.out; clear hb))
  go_ret
  exact ⟨ret_text HT.out.symm, HB2.out.trans (HBc.out.mono HB2.out.size)⟩
set_option maxHeartbeats 3200000 in
set_option maxRecDepth 100000 in
theorem rtext_11_0 (a : Acn) (hk : a.kind = 11) (hop : a.op = 0) (hr : rights a = true) (w : World) : Calls Tryd.prog 8 #[.agg a.cs] w fun e w' => e = .returned (.string (bt (text a))) ∧ Below w.heap.size w w' := by
  have hB := bounds a hr
  have gx : 0 ≤ a.x := hB.x0 (by rw [hk]; decide)
  have Dx := Lib.hid (fun w => dig_any a.x gx (by have := hB.x.2; omega) w)
  have sx := itoa_size a.x (by have := gx; omega) (by have : a.x ≤ 999999999 := (by have := hB.x.2; omega); omega)
  have Ol := Lib.hid (fun w => roperand_any a.l (hB.l (by omega)) w)
  have yl := opOk_size (hB.l (by omega))
  have Dpl := Lib.hid (fun w => dig_any a.pl hB.pl.1 (by have := hB.pl.2; omega) w)
  have spl := itoa_size a.pl (by have := hB.pl.1; omega) (by have : a.pl ≤ 999999999 := (by have := hB.pl.2; omega); omega)
  have HW : Hid (∀ w, Calls Tryd.prog 22 #[.int .i64 11] w fun e w' => e = .returned (.string (bt (wordOf 11))) ∧ Below w.heap.size w w') := Lib.hid (fun w => word_any 11 (by decide) w)
  have sw : (bt (wordOf 11)).size ≤ 4 := word_len 11
  have HT : Hid (bt (text a) = ((((((bt (wordOf 11)) ++ ⟨#[32, 105]⟩) ++ (bt (Lib.itoa a.x))) ++ (bt (32 :: opT a.l))) ++ ⟨#[32, 64]⟩) ++ (bt (Lib.itoa a.pl)))) := Lib.hid (by
    show bt (text a) = ((((((bt (wordOf 11)) ++ bt [32, 105]) ++ (bt (Lib.itoa a.x))) ++ (bt (32 :: opT a.l))) ++ bt [32, 64]) ++ (bt (Lib.itoa a.pl)))
    simp only [bt_app]
    congr 1
    unfold text
    rw [if_pos hr, hk]
    simp [formOf, txts, txt, numOf, sgOf, numT_pos 5 a.x gx, numT_pos 8 a.pl hB.pl.1, hop])
  have HB0 : Hid (Bk (w.alloc (.cells a.cs 25)) w.heap.size 25 a.cs) := Lib.hid (heap_alloc_new _ _)
  have HBA : Hid (Below w.heap.size w (w.alloc (.cells a.cs 25))) := Lib.hid ((Below.refl _ _).alloc (Nat.le_refl _) _)
  have HLT : Hid (w.heap.size < (w.alloc (.cells a.cs 25)).heap.size) := Lib.hid (by simp)
  have CR := Lib.hid (fun w => rright_any a w)
  rw [hr] at CR
  have CH : Hid (∀ w, Calls Tryd.prog 18 #[.agg a.cs] w fun e w' => e = .returned (.agg (hcs (true, false, false, false, true, true, false, false))) ∧ Below w.heap.size w w') := Lib.hid (fun w => by
    have := has_any a w
    rw [hk, hop] at this
    exact this)
  have HF : Hid (∀ w', Bk w' w.heap.size 25 a.cs → w'.cell? ⟨w.heap.size, 0, none⟩ = some (.int .i64 11) ∧ w'.cell? ⟨w.heap.size, 1, none⟩ = some (.int .i64 a.x) ∧ w'.cell? ⟨w.heap.size, 2, none⟩ = some (.int .i64 a.y) ∧ w'.cell? ⟨w.heap.size, 3, none⟩ = some (.int .i64 a.f) ∧ w'.cell? ⟨w.heap.size, 4, none⟩ = some (.int .i64 a.t) ∧ w'.cell? ⟨w.heap.size, 5, none⟩ = some (.int .i64 a.pl) ∧ w'.cell? ⟨w.heap.size, 6, none⟩ = some (.int .i64 0) ∧ w'.cell? ⟨w.heap.size, 7, none⟩ = some (.int .i64 a.l.v) ∧ w'.cell? ⟨w.heap.size, 8, none⟩ = some (.int .i64 a.l.n) ∧ w'.cell? ⟨w.heap.size, 9, none⟩ = some (.int .i64 a.r.v) ∧ w'.cell? ⟨w.heap.size, 10, none⟩ = some (.int .i64 a.r.n) ∧ w'.cell? ⟨w.heap.size, 11, none⟩ = some (.bool a.sense)) := Lib.hid (fun w' hb => ⟨by rw [← hk]; exact hb.cell 0, hb.cell 1, hb.cell 2, hb.cell 3, hb.cell 4, hb.cell 5, by rw [← hop]; exact hb.cell 6, hb.cell 7, hb.cell 8, hb.cell 9, hb.cell 10, hb.cell 11⟩)
  clear hr hB gx
  generalize bt (wordOf 11) = tw at *
  generalize bt (Lib.itoa a.x) = tx at *
  generalize bt (32 :: opT a.l) = ol at *
  generalize bt (Lib.itoa a.pl) = tpl at *
  go_enter Tryd.func8, Tryd.ntmps8
  go_upto_region 1 with fail
  generalize w.alloc (.cells a.cs 25) = w1 at HB0 HBA HLT ⊢
  go_upto_region 3 with (first
    | ((with_reducible show wpList _ _ _ (Oper.mk _ (Op.load 25 _) _ _ _ _ :: _) _ _); refine wpList_load_bk rfl 25 _ rfl w.heap.size 25 a.cs rfl _ HB0.out Tryd.underlying25 rfl size25 ?_)
    | (go_at_call 6; refine (CR.out _).mono ?_; rintro e w2 ⟨rfl, hb⟩; have HB1 := Lib.hid hb; have HA1 := Lib.hid (HB0.out.below hb HLT.out); clear hb))
  go_upto_region 4 with (first
    | ((with_reducible show wpList _ _ _ (Oper.mk _ (Op.load 25 _) _ _ _ _ :: _) _ _); refine wpList_load_bk rfl 25 _ rfl w.heap.size 25 a.cs rfl _ HA1.out Tryd.underlying25 rfl size25 ?_)
    | (go_at_call 18; refine (CH.out _).mono ?_; rintro e wh ⟨rfl, hb⟩; have HBH := Lib.hid hb; have HA2 := Lib.hid (HA1.out.below hb HA1.out.lt); clear hb)
    | ((with_reducible show wpList _ _ _ (Oper.mk _ (Op.store 39 _ _) _ _ _ _ :: _) _ _); refine wpList_store_new rfl 39 _ _ rfl _ (hcs (true, false, false, false, true, true, false, false)) rfl rfl size39 rfl (hcs_one _) ?_))
  have HB2 : Hid (Below w.heap.size w (wh.alloc (.cells (hcs (true, false, false, false, true, true, false, false)) 39))) := Lib.hid (((HBA.out.trans (HB1.out.mono HBA.out.size)).trans (HBH.out.mono (Nat.le_trans HBA.out.size HB1.out.size))).alloc (Nat.le_trans HBA.out.size (Nat.le_trans HB1.out.size HBH.out.size)) _)
  have HA : Hid (Bk (wh.alloc (.cells (hcs (true, false, false, false, true, true, false, false)) 39)) w.heap.size 25 a.cs) := Lib.hid (HA2.out.below ((Below.refl _ _).alloc (Nat.le_refl _) _) HA2.out.lt)
  have HH : Hid (Bk (wh.alloc (.cells (hcs (true, false, false, false, true, true, false, false)) 39)) wh.heap.size 39 (hcs (true, false, false, false, true, true, false, false))) := Lib.hid (heap_alloc_new _ _)
  generalize wh.alloc (.cells (hcs (true, false, false, false, true, true, false, false)) 39) = w3 at HB2 HA HH ⊢
  generalize wh.heap.size = g at HH ⊢
  have HFA : Hid (∀ w', Below w3.heap.size w3 w' → w'.cell? ⟨w.heap.size, 0, none⟩ = some (.int .i64 11) ∧ w'.cell? ⟨w.heap.size, 1, none⟩ = some (.int .i64 a.x) ∧ w'.cell? ⟨w.heap.size, 2, none⟩ = some (.int .i64 a.y) ∧ w'.cell? ⟨w.heap.size, 3, none⟩ = some (.int .i64 a.f) ∧ w'.cell? ⟨w.heap.size, 4, none⟩ = some (.int .i64 a.t) ∧ w'.cell? ⟨w.heap.size, 5, none⟩ = some (.int .i64 a.pl) ∧ w'.cell? ⟨w.heap.size, 6, none⟩ = some (.int .i64 0) ∧ w'.cell? ⟨w.heap.size, 7, none⟩ = some (.int .i64 a.l.v) ∧ w'.cell? ⟨w.heap.size, 8, none⟩ = some (.int .i64 a.l.n) ∧ w'.cell? ⟨w.heap.size, 9, none⟩ = some (.int .i64 a.r.v) ∧ w'.cell? ⟨w.heap.size, 10, none⟩ = some (.int .i64 a.r.n) ∧ w'.cell? ⟨w.heap.size, 11, none⟩ = some (.bool a.sense)) := Lib.hid (fun w' hb => HF.out w' (HA.out.below hb HA.out.lt))
  have HFG : Hid (∀ w', Below w3.heap.size w3 w' → w'.cell? ⟨g, 0, none⟩ = some (.bool true) ∧ w'.cell? ⟨g, 1, none⟩ = some (.bool false) ∧ w'.cell? ⟨g, 2, none⟩ = some (.bool false) ∧ w'.cell? ⟨g, 3, none⟩ = some (.bool false) ∧ w'.cell? ⟨g, 4, none⟩ = some (.bool true) ∧ w'.cell? ⟨g, 5, none⟩ = some (.bool true) ∧ w'.cell? ⟨g, 6, none⟩ = some (.bool false) ∧ w'.cell? ⟨g, 7, none⟩ = some (.bool false)) := Lib.hid (fun w' hb => by
    have hk := HH.out.below hb HH.out.lt
    exact ⟨hk.cell 0, hk.cell 1, hk.cell 2, hk.cell 3, hk.cell 4, hk.cell 5, hk.cell 6, hk.cell 7⟩)
  have HBc : Hid (Below w3.heap.size w3 w3) := Lib.hid (Below.refl _ _)
  obtain ⟨c0, c1, c2, c3, c4, c5, c6, c7, c8, c9, c10, c11⟩ := HFA.out _ HBc.out
  clear hk hop
  go_wp2_with (first
    | (go_at_call 22; (with_reducible refine (HW.out _).mono ?_); rintro e wn ⟨rfl, hb⟩; have HBc := Lib.hid (HBc.out.trans (hb.mono HBc.out.size)); obtain ⟨c0, c1, c2, c3, c4, c5, c6, c7, c8, c9, c10, c11⟩ := HFA.out _ HBc.out; obtain ⟨d0, d1, d2, d3, d4, d5, d6, d7⟩ := HFG.out _ HBc.out; clear hb)
    | (go_at_call 23; (with_reducible refine (Dx.out _).mono ?_); rintro e wn ⟨rfl, hb⟩; have HBc := Lib.hid (HBc.out.trans (hb.mono HBc.out.size)); obtain ⟨c0, c1, c2, c3, c4, c5, c6, c7, c8, c9, c10, c11⟩ := HFA.out _ HBc.out; obtain ⟨d0, d1, d2, d3, d4, d5, d6, d7⟩ := HFG.out _ HBc.out; clear hb)
    | (go_at_call 25; (with_reducible refine (Ol.out _).mono ?_); rintro e wn ⟨rfl, hb⟩; have HBc := Lib.hid (HBc.out.trans (hb.mono HBc.out.size)); obtain ⟨c0, c1, c2, c3, c4, c5, c6, c7, c8, c9, c10, c11⟩ := HFA.out _ HBc.out; obtain ⟨d0, d1, d2, d3, d4, d5, d6, d7⟩ := HFG.out _ HBc.out; clear hb)
    | (go_at_call 23; (with_reducible refine (Dpl.out _).mono ?_); rintro e wn ⟨rfl, hb⟩; have HBc := Lib.hid (HBc.out.trans (hb.mono HBc.out.size)); obtain ⟨c0, c1, c2, c3, c4, c5, c6, c7, c8, c9, c10, c11⟩ := HFA.out _ HBc.out; obtain ⟨d0, d1, d2, d3, d4, d5, d6, d7⟩ := HFG.out _ HBc.out; clear hb))
  go_ret
  exact ⟨ret_text HT.out.symm, HB2.out.trans (HBc.out.mono HB2.out.size)⟩
set_option maxHeartbeats 3200000 in
set_option maxRecDepth 100000 in
theorem rtext_11_1 (a : Acn) (hk : a.kind = 11) (hop : a.op = 1) (hr : rights a = true) (w : World) : Calls Tryd.prog 8 #[.agg a.cs] w fun e w' => e = .returned (.string (bt (text a))) ∧ Below w.heap.size w w' := by
  have hB := bounds a hr
  have gx : 0 ≤ a.x := hB.x0 (by rw [hk]; decide)
  have Dx := Lib.hid (fun w => dig_any a.x gx (by have := hB.x.2; omega) w)
  have sx := itoa_size a.x (by have := gx; omega) (by have : a.x ≤ 999999999 := (by have := hB.x.2; omega); omega)
  have Ol := Lib.hid (fun w => roperand_any a.l (hB.l (by omega)) w)
  have yl := opOk_size (hB.l (by omega))
  have Or := Lib.hid (fun w => roperand_any a.r (hB.r (by omega)) w)
  have yr := opOk_size (hB.r (by omega))
  have Dpl := Lib.hid (fun w => dig_any a.pl hB.pl.1 (by have := hB.pl.2; omega) w)
  have spl := itoa_size a.pl (by have := hB.pl.1; omega) (by have : a.pl ≤ 999999999 := (by have := hB.pl.2; omega); omega)
  have HW : Hid (∀ w, Calls Tryd.prog 22 #[.int .i64 11] w fun e w' => e = .returned (.string (bt (wordOf 11))) ∧ Below w.heap.size w w') := Lib.hid (fun w => word_any 11 (by decide) w)
  have sw : (bt (wordOf 11)).size ≤ 4 := word_len 11
  have HT : Hid (bt (text a) = ((((((((bt (wordOf 11)) ++ ⟨#[32, 105]⟩) ++ (bt (Lib.itoa a.x))) ++ (bt (32 :: opT a.l))) ++ ⟨#[32, 43]⟩) ++ (bt (32 :: opT a.r))) ++ ⟨#[32, 64]⟩) ++ (bt (Lib.itoa a.pl)))) := Lib.hid (by
    show bt (text a) = ((((((((bt (wordOf 11)) ++ bt [32, 105]) ++ (bt (Lib.itoa a.x))) ++ (bt (32 :: opT a.l))) ++ bt [32, 43]) ++ (bt (32 :: opT a.r))) ++ bt [32, 64]) ++ (bt (Lib.itoa a.pl)))
    simp only [bt_app]
    congr 1
    unfold text
    rw [if_pos hr, hk]
    simp [formOf, txts, txt, numOf, sgOf, numT_pos 5 a.x gx, numT_pos 8 a.pl hB.pl.1, hop, sumOf])
  have HB0 : Hid (Bk (w.alloc (.cells a.cs 25)) w.heap.size 25 a.cs) := Lib.hid (heap_alloc_new _ _)
  have HBA : Hid (Below w.heap.size w (w.alloc (.cells a.cs 25))) := Lib.hid ((Below.refl _ _).alloc (Nat.le_refl _) _)
  have HLT : Hid (w.heap.size < (w.alloc (.cells a.cs 25)).heap.size) := Lib.hid (by simp)
  have CR := Lib.hid (fun w => rright_any a w)
  rw [hr] at CR
  have CH : Hid (∀ w, Calls Tryd.prog 18 #[.agg a.cs] w fun e w' => e = .returned (.agg (hcs (true, false, false, false, true, true, true, false))) ∧ Below w.heap.size w w') := Lib.hid (fun w => by
    have := has_any a w
    rw [hk, hop] at this
    exact this)
  have HF : Hid (∀ w', Bk w' w.heap.size 25 a.cs → w'.cell? ⟨w.heap.size, 0, none⟩ = some (.int .i64 11) ∧ w'.cell? ⟨w.heap.size, 1, none⟩ = some (.int .i64 a.x) ∧ w'.cell? ⟨w.heap.size, 2, none⟩ = some (.int .i64 a.y) ∧ w'.cell? ⟨w.heap.size, 3, none⟩ = some (.int .i64 a.f) ∧ w'.cell? ⟨w.heap.size, 4, none⟩ = some (.int .i64 a.t) ∧ w'.cell? ⟨w.heap.size, 5, none⟩ = some (.int .i64 a.pl) ∧ w'.cell? ⟨w.heap.size, 6, none⟩ = some (.int .i64 1) ∧ w'.cell? ⟨w.heap.size, 7, none⟩ = some (.int .i64 a.l.v) ∧ w'.cell? ⟨w.heap.size, 8, none⟩ = some (.int .i64 a.l.n) ∧ w'.cell? ⟨w.heap.size, 9, none⟩ = some (.int .i64 a.r.v) ∧ w'.cell? ⟨w.heap.size, 10, none⟩ = some (.int .i64 a.r.n) ∧ w'.cell? ⟨w.heap.size, 11, none⟩ = some (.bool a.sense)) := Lib.hid (fun w' hb => ⟨by rw [← hk]; exact hb.cell 0, hb.cell 1, hb.cell 2, hb.cell 3, hb.cell 4, hb.cell 5, by rw [← hop]; exact hb.cell 6, hb.cell 7, hb.cell 8, hb.cell 9, hb.cell 10, hb.cell 11⟩)
  clear hr hB gx
  generalize bt (wordOf 11) = tw at *
  generalize bt (Lib.itoa a.x) = tx at *
  generalize bt (32 :: opT a.l) = ol at *
  generalize bt (32 :: opT a.r) = or at *
  generalize bt (Lib.itoa a.pl) = tpl at *
  go_enter Tryd.func8, Tryd.ntmps8
  go_upto_region 1 with fail
  generalize w.alloc (.cells a.cs 25) = w1 at HB0 HBA HLT ⊢
  go_upto_region 3 with (first
    | ((with_reducible show wpList _ _ _ (Oper.mk _ (Op.load 25 _) _ _ _ _ :: _) _ _); refine wpList_load_bk rfl 25 _ rfl w.heap.size 25 a.cs rfl _ HB0.out Tryd.underlying25 rfl size25 ?_)
    | (go_at_call 6; refine (CR.out _).mono ?_; rintro e w2 ⟨rfl, hb⟩; have HB1 := Lib.hid hb; have HA1 := Lib.hid (HB0.out.below hb HLT.out); clear hb))
  go_upto_region 4 with (first
    | ((with_reducible show wpList _ _ _ (Oper.mk _ (Op.load 25 _) _ _ _ _ :: _) _ _); refine wpList_load_bk rfl 25 _ rfl w.heap.size 25 a.cs rfl _ HA1.out Tryd.underlying25 rfl size25 ?_)
    | (go_at_call 18; refine (CH.out _).mono ?_; rintro e wh ⟨rfl, hb⟩; have HBH := Lib.hid hb; have HA2 := Lib.hid (HA1.out.below hb HA1.out.lt); clear hb)
    | ((with_reducible show wpList _ _ _ (Oper.mk _ (Op.store 39 _ _) _ _ _ _ :: _) _ _); refine wpList_store_new rfl 39 _ _ rfl _ (hcs (true, false, false, false, true, true, true, false)) rfl rfl size39 rfl (hcs_one _) ?_))
  have HB2 : Hid (Below w.heap.size w (wh.alloc (.cells (hcs (true, false, false, false, true, true, true, false)) 39))) := Lib.hid (((HBA.out.trans (HB1.out.mono HBA.out.size)).trans (HBH.out.mono (Nat.le_trans HBA.out.size HB1.out.size))).alloc (Nat.le_trans HBA.out.size (Nat.le_trans HB1.out.size HBH.out.size)) _)
  have HA : Hid (Bk (wh.alloc (.cells (hcs (true, false, false, false, true, true, true, false)) 39)) w.heap.size 25 a.cs) := Lib.hid (HA2.out.below ((Below.refl _ _).alloc (Nat.le_refl _) _) HA2.out.lt)
  have HH : Hid (Bk (wh.alloc (.cells (hcs (true, false, false, false, true, true, true, false)) 39)) wh.heap.size 39 (hcs (true, false, false, false, true, true, true, false))) := Lib.hid (heap_alloc_new _ _)
  generalize wh.alloc (.cells (hcs (true, false, false, false, true, true, true, false)) 39) = w3 at HB2 HA HH ⊢
  generalize wh.heap.size = g at HH ⊢
  have HFA : Hid (∀ w', Below w3.heap.size w3 w' → w'.cell? ⟨w.heap.size, 0, none⟩ = some (.int .i64 11) ∧ w'.cell? ⟨w.heap.size, 1, none⟩ = some (.int .i64 a.x) ∧ w'.cell? ⟨w.heap.size, 2, none⟩ = some (.int .i64 a.y) ∧ w'.cell? ⟨w.heap.size, 3, none⟩ = some (.int .i64 a.f) ∧ w'.cell? ⟨w.heap.size, 4, none⟩ = some (.int .i64 a.t) ∧ w'.cell? ⟨w.heap.size, 5, none⟩ = some (.int .i64 a.pl) ∧ w'.cell? ⟨w.heap.size, 6, none⟩ = some (.int .i64 1) ∧ w'.cell? ⟨w.heap.size, 7, none⟩ = some (.int .i64 a.l.v) ∧ w'.cell? ⟨w.heap.size, 8, none⟩ = some (.int .i64 a.l.n) ∧ w'.cell? ⟨w.heap.size, 9, none⟩ = some (.int .i64 a.r.v) ∧ w'.cell? ⟨w.heap.size, 10, none⟩ = some (.int .i64 a.r.n) ∧ w'.cell? ⟨w.heap.size, 11, none⟩ = some (.bool a.sense)) := Lib.hid (fun w' hb => HF.out w' (HA.out.below hb HA.out.lt))
  have HFG : Hid (∀ w', Below w3.heap.size w3 w' → w'.cell? ⟨g, 0, none⟩ = some (.bool true) ∧ w'.cell? ⟨g, 1, none⟩ = some (.bool false) ∧ w'.cell? ⟨g, 2, none⟩ = some (.bool false) ∧ w'.cell? ⟨g, 3, none⟩ = some (.bool false) ∧ w'.cell? ⟨g, 4, none⟩ = some (.bool true) ∧ w'.cell? ⟨g, 5, none⟩ = some (.bool true) ∧ w'.cell? ⟨g, 6, none⟩ = some (.bool true) ∧ w'.cell? ⟨g, 7, none⟩ = some (.bool false)) := Lib.hid (fun w' hb => by
    have hk := HH.out.below hb HH.out.lt
    exact ⟨hk.cell 0, hk.cell 1, hk.cell 2, hk.cell 3, hk.cell 4, hk.cell 5, hk.cell 6, hk.cell 7⟩)
  have HBc : Hid (Below w3.heap.size w3 w3) := Lib.hid (Below.refl _ _)
  obtain ⟨c0, c1, c2, c3, c4, c5, c6, c7, c8, c9, c10, c11⟩ := HFA.out _ HBc.out
  clear hk hop
  go_wp2_with (first
    | (go_at_call 22; (with_reducible refine (HW.out _).mono ?_); rintro e wn ⟨rfl, hb⟩; have HBc := Lib.hid (HBc.out.trans (hb.mono HBc.out.size)); obtain ⟨c0, c1, c2, c3, c4, c5, c6, c7, c8, c9, c10, c11⟩ := HFA.out _ HBc.out; obtain ⟨d0, d1, d2, d3, d4, d5, d6, d7⟩ := HFG.out _ HBc.out; clear hb)
    | (go_at_call 23; (with_reducible refine (Dx.out _).mono ?_); rintro e wn ⟨rfl, hb⟩; have HBc := Lib.hid (HBc.out.trans (hb.mono HBc.out.size)); obtain ⟨c0, c1, c2, c3, c4, c5, c6, c7, c8, c9, c10, c11⟩ := HFA.out _ HBc.out; obtain ⟨d0, d1, d2, d3, d4, d5, d6, d7⟩ := HFG.out _ HBc.out; clear hb)
    | (go_at_call 25; (with_reducible refine (Ol.out _).mono ?_); rintro e wn ⟨rfl, hb⟩; have HBc := Lib.hid (HBc.out.trans (hb.mono HBc.out.size)); obtain ⟨c0, c1, c2, c3, c4, c5, c6, c7, c8, c9, c10, c11⟩ := HFA.out _ HBc.out; obtain ⟨d0, d1, d2, d3, d4, d5, d6, d7⟩ := HFG.out _ HBc.out; clear hb; have HBx : Hid (∀ o, Below w3.heap.size w3 (wn.alloc o)) := Lib.hid (fun o => HBc.out.alloc HBc.out.size o); have hlA : w.heap.size < wn.heap.size := Nat.lt_of_lt_of_le HA.out.lt HBc.out.size; have hlG : g < wn.heap.size := Nat.lt_of_lt_of_le HH.out.lt HBc.out.size)
    | (go_at_call 25; (with_reducible refine (Or.out _).mono ?_); rintro e wn ⟨rfl, hb⟩; have HBc := Lib.hid ((HBx.out _).trans (hb.mono (HBx.out _).size)); obtain ⟨c0, c1, c2, c3, c4, c5, c6, c7, c8, c9, c10, c11⟩ := HFA.out _ HBc.out; obtain ⟨d0, d1, d2, d3, d4, d5, d6, d7⟩ := HFG.out _ HBc.out; clear hb)
    | (go_at_call 23; (with_reducible refine (Dpl.out _).mono ?_); rintro e wn ⟨rfl, hb⟩; have HBc := Lib.hid (HBc.out.trans (hb.mono HBc.out.size)); obtain ⟨c0, c1, c2, c3, c4, c5, c6, c7, c8, c9, c10, c11⟩ := HFA.out _ HBc.out; obtain ⟨d0, d1, d2, d3, d4, d5, d6, d7⟩ := HFG.out _ HBc.out; clear hb))
  go_ret
  exact ⟨ret_text HT.out.symm, HB2.out.trans (HBc.out.mono HB2.out.size)⟩
set_option maxHeartbeats 3200000 in
set_option maxRecDepth 100000 in
theorem rtext_11_2 (a : Acn) (hk : a.kind = 11) (hop : a.op = 2) (hr : rights a = true) (w : World) : Calls Tryd.prog 8 #[.agg a.cs] w fun e w' => e = .returned (.string (bt (text a))) ∧ Below w.heap.size w w' := by
  have hB := bounds a hr
  have gx : 0 ≤ a.x := hB.x0 (by rw [hk]; decide)
  have Dx := Lib.hid (fun w => dig_any a.x gx (by have := hB.x.2; omega) w)
  have sx := itoa_size a.x (by have := gx; omega) (by have : a.x ≤ 999999999 := (by have := hB.x.2; omega); omega)
  have Ol := Lib.hid (fun w => roperand_any a.l (hB.l (by omega)) w)
  have yl := opOk_size (hB.l (by omega))
  have Or := Lib.hid (fun w => roperand_any a.r (hB.r (by omega)) w)
  have yr := opOk_size (hB.r (by omega))
  have Dpl := Lib.hid (fun w => dig_any a.pl hB.pl.1 (by have := hB.pl.2; omega) w)
  have spl := itoa_size a.pl (by have := hB.pl.1; omega) (by have : a.pl ≤ 999999999 := (by have := hB.pl.2; omega); omega)
  have HW : Hid (∀ w, Calls Tryd.prog 22 #[.int .i64 11] w fun e w' => e = .returned (.string (bt (wordOf 11))) ∧ Below w.heap.size w w') := Lib.hid (fun w => word_any 11 (by decide) w)
  have sw : (bt (wordOf 11)).size ≤ 4 := word_len 11
  have HT : Hid (bt (text a) = ((((((((bt (wordOf 11)) ++ ⟨#[32, 105]⟩) ++ (bt (Lib.itoa a.x))) ++ (bt (32 :: opT a.l))) ++ ⟨#[32, 45]⟩) ++ (bt (32 :: opT a.r))) ++ ⟨#[32, 64]⟩) ++ (bt (Lib.itoa a.pl)))) := Lib.hid (by
    show bt (text a) = ((((((((bt (wordOf 11)) ++ bt [32, 105]) ++ (bt (Lib.itoa a.x))) ++ (bt (32 :: opT a.l))) ++ bt [32, 45]) ++ (bt (32 :: opT a.r))) ++ bt [32, 64]) ++ (bt (Lib.itoa a.pl)))
    simp only [bt_app]
    congr 1
    unfold text
    rw [if_pos hr, hk]
    simp [formOf, txts, txt, numOf, sgOf, numT_pos 5 a.x gx, numT_pos 8 a.pl hB.pl.1, hop, sumOf])
  have HB0 : Hid (Bk (w.alloc (.cells a.cs 25)) w.heap.size 25 a.cs) := Lib.hid (heap_alloc_new _ _)
  have HBA : Hid (Below w.heap.size w (w.alloc (.cells a.cs 25))) := Lib.hid ((Below.refl _ _).alloc (Nat.le_refl _) _)
  have HLT : Hid (w.heap.size < (w.alloc (.cells a.cs 25)).heap.size) := Lib.hid (by simp)
  have CR := Lib.hid (fun w => rright_any a w)
  rw [hr] at CR
  have CH : Hid (∀ w, Calls Tryd.prog 18 #[.agg a.cs] w fun e w' => e = .returned (.agg (hcs (true, false, false, false, true, true, true, false))) ∧ Below w.heap.size w w') := Lib.hid (fun w => by
    have := has_any a w
    rw [hk, hop] at this
    exact this)
  have HF : Hid (∀ w', Bk w' w.heap.size 25 a.cs → w'.cell? ⟨w.heap.size, 0, none⟩ = some (.int .i64 11) ∧ w'.cell? ⟨w.heap.size, 1, none⟩ = some (.int .i64 a.x) ∧ w'.cell? ⟨w.heap.size, 2, none⟩ = some (.int .i64 a.y) ∧ w'.cell? ⟨w.heap.size, 3, none⟩ = some (.int .i64 a.f) ∧ w'.cell? ⟨w.heap.size, 4, none⟩ = some (.int .i64 a.t) ∧ w'.cell? ⟨w.heap.size, 5, none⟩ = some (.int .i64 a.pl) ∧ w'.cell? ⟨w.heap.size, 6, none⟩ = some (.int .i64 2) ∧ w'.cell? ⟨w.heap.size, 7, none⟩ = some (.int .i64 a.l.v) ∧ w'.cell? ⟨w.heap.size, 8, none⟩ = some (.int .i64 a.l.n) ∧ w'.cell? ⟨w.heap.size, 9, none⟩ = some (.int .i64 a.r.v) ∧ w'.cell? ⟨w.heap.size, 10, none⟩ = some (.int .i64 a.r.n) ∧ w'.cell? ⟨w.heap.size, 11, none⟩ = some (.bool a.sense)) := Lib.hid (fun w' hb => ⟨by rw [← hk]; exact hb.cell 0, hb.cell 1, hb.cell 2, hb.cell 3, hb.cell 4, hb.cell 5, by rw [← hop]; exact hb.cell 6, hb.cell 7, hb.cell 8, hb.cell 9, hb.cell 10, hb.cell 11⟩)
  clear hr hB gx
  generalize bt (wordOf 11) = tw at *
  generalize bt (Lib.itoa a.x) = tx at *
  generalize bt (32 :: opT a.l) = ol at *
  generalize bt (32 :: opT a.r) = or at *
  generalize bt (Lib.itoa a.pl) = tpl at *
  go_enter Tryd.func8, Tryd.ntmps8
  go_upto_region 1 with fail
  generalize w.alloc (.cells a.cs 25) = w1 at HB0 HBA HLT ⊢
  go_upto_region 3 with (first
    | ((with_reducible show wpList _ _ _ (Oper.mk _ (Op.load 25 _) _ _ _ _ :: _) _ _); refine wpList_load_bk rfl 25 _ rfl w.heap.size 25 a.cs rfl _ HB0.out Tryd.underlying25 rfl size25 ?_)
    | (go_at_call 6; refine (CR.out _).mono ?_; rintro e w2 ⟨rfl, hb⟩; have HB1 := Lib.hid hb; have HA1 := Lib.hid (HB0.out.below hb HLT.out); clear hb))
  go_upto_region 4 with (first
    | ((with_reducible show wpList _ _ _ (Oper.mk _ (Op.load 25 _) _ _ _ _ :: _) _ _); refine wpList_load_bk rfl 25 _ rfl w.heap.size 25 a.cs rfl _ HA1.out Tryd.underlying25 rfl size25 ?_)
    | (go_at_call 18; refine (CH.out _).mono ?_; rintro e wh ⟨rfl, hb⟩; have HBH := Lib.hid hb; have HA2 := Lib.hid (HA1.out.below hb HA1.out.lt); clear hb)
    | ((with_reducible show wpList _ _ _ (Oper.mk _ (Op.store 39 _ _) _ _ _ _ :: _) _ _); refine wpList_store_new rfl 39 _ _ rfl _ (hcs (true, false, false, false, true, true, true, false)) rfl rfl size39 rfl (hcs_one _) ?_))
  have HB2 : Hid (Below w.heap.size w (wh.alloc (.cells (hcs (true, false, false, false, true, true, true, false)) 39))) := Lib.hid (((HBA.out.trans (HB1.out.mono HBA.out.size)).trans (HBH.out.mono (Nat.le_trans HBA.out.size HB1.out.size))).alloc (Nat.le_trans HBA.out.size (Nat.le_trans HB1.out.size HBH.out.size)) _)
  have HA : Hid (Bk (wh.alloc (.cells (hcs (true, false, false, false, true, true, true, false)) 39)) w.heap.size 25 a.cs) := Lib.hid (HA2.out.below ((Below.refl _ _).alloc (Nat.le_refl _) _) HA2.out.lt)
  have HH : Hid (Bk (wh.alloc (.cells (hcs (true, false, false, false, true, true, true, false)) 39)) wh.heap.size 39 (hcs (true, false, false, false, true, true, true, false))) := Lib.hid (heap_alloc_new _ _)
  generalize wh.alloc (.cells (hcs (true, false, false, false, true, true, true, false)) 39) = w3 at HB2 HA HH ⊢
  generalize wh.heap.size = g at HH ⊢
  have HFA : Hid (∀ w', Below w3.heap.size w3 w' → w'.cell? ⟨w.heap.size, 0, none⟩ = some (.int .i64 11) ∧ w'.cell? ⟨w.heap.size, 1, none⟩ = some (.int .i64 a.x) ∧ w'.cell? ⟨w.heap.size, 2, none⟩ = some (.int .i64 a.y) ∧ w'.cell? ⟨w.heap.size, 3, none⟩ = some (.int .i64 a.f) ∧ w'.cell? ⟨w.heap.size, 4, none⟩ = some (.int .i64 a.t) ∧ w'.cell? ⟨w.heap.size, 5, none⟩ = some (.int .i64 a.pl) ∧ w'.cell? ⟨w.heap.size, 6, none⟩ = some (.int .i64 2) ∧ w'.cell? ⟨w.heap.size, 7, none⟩ = some (.int .i64 a.l.v) ∧ w'.cell? ⟨w.heap.size, 8, none⟩ = some (.int .i64 a.l.n) ∧ w'.cell? ⟨w.heap.size, 9, none⟩ = some (.int .i64 a.r.v) ∧ w'.cell? ⟨w.heap.size, 10, none⟩ = some (.int .i64 a.r.n) ∧ w'.cell? ⟨w.heap.size, 11, none⟩ = some (.bool a.sense)) := Lib.hid (fun w' hb => HF.out w' (HA.out.below hb HA.out.lt))
  have HFG : Hid (∀ w', Below w3.heap.size w3 w' → w'.cell? ⟨g, 0, none⟩ = some (.bool true) ∧ w'.cell? ⟨g, 1, none⟩ = some (.bool false) ∧ w'.cell? ⟨g, 2, none⟩ = some (.bool false) ∧ w'.cell? ⟨g, 3, none⟩ = some (.bool false) ∧ w'.cell? ⟨g, 4, none⟩ = some (.bool true) ∧ w'.cell? ⟨g, 5, none⟩ = some (.bool true) ∧ w'.cell? ⟨g, 6, none⟩ = some (.bool true) ∧ w'.cell? ⟨g, 7, none⟩ = some (.bool false)) := Lib.hid (fun w' hb => by
    have hk := HH.out.below hb HH.out.lt
    exact ⟨hk.cell 0, hk.cell 1, hk.cell 2, hk.cell 3, hk.cell 4, hk.cell 5, hk.cell 6, hk.cell 7⟩)
  have HBc : Hid (Below w3.heap.size w3 w3) := Lib.hid (Below.refl _ _)
  obtain ⟨c0, c1, c2, c3, c4, c5, c6, c7, c8, c9, c10, c11⟩ := HFA.out _ HBc.out
  clear hk hop
  go_wp2_with (first
    | (go_at_call 22; (with_reducible refine (HW.out _).mono ?_); rintro e wn ⟨rfl, hb⟩; have HBc := Lib.hid (HBc.out.trans (hb.mono HBc.out.size)); obtain ⟨c0, c1, c2, c3, c4, c5, c6, c7, c8, c9, c10, c11⟩ := HFA.out _ HBc.out; obtain ⟨d0, d1, d2, d3, d4, d5, d6, d7⟩ := HFG.out _ HBc.out; clear hb)
    | (go_at_call 23; (with_reducible refine (Dx.out _).mono ?_); rintro e wn ⟨rfl, hb⟩; have HBc := Lib.hid (HBc.out.trans (hb.mono HBc.out.size)); obtain ⟨c0, c1, c2, c3, c4, c5, c6, c7, c8, c9, c10, c11⟩ := HFA.out _ HBc.out; obtain ⟨d0, d1, d2, d3, d4, d5, d6, d7⟩ := HFG.out _ HBc.out; clear hb)
    | (go_at_call 25; (with_reducible refine (Ol.out _).mono ?_); rintro e wn ⟨rfl, hb⟩; have HBc := Lib.hid (HBc.out.trans (hb.mono HBc.out.size)); obtain ⟨c0, c1, c2, c3, c4, c5, c6, c7, c8, c9, c10, c11⟩ := HFA.out _ HBc.out; obtain ⟨d0, d1, d2, d3, d4, d5, d6, d7⟩ := HFG.out _ HBc.out; clear hb; have HBx : Hid (∀ o, Below w3.heap.size w3 (wn.alloc o)) := Lib.hid (fun o => HBc.out.alloc HBc.out.size o); have hlA : w.heap.size < wn.heap.size := Nat.lt_of_lt_of_le HA.out.lt HBc.out.size; have hlG : g < wn.heap.size := Nat.lt_of_lt_of_le HH.out.lt HBc.out.size)
    | (go_at_call 25; (with_reducible refine (Or.out _).mono ?_); rintro e wn ⟨rfl, hb⟩; have HBc := Lib.hid ((HBx.out _).trans (hb.mono (HBx.out _).size)); obtain ⟨c0, c1, c2, c3, c4, c5, c6, c7, c8, c9, c10, c11⟩ := HFA.out _ HBc.out; obtain ⟨d0, d1, d2, d3, d4, d5, d6, d7⟩ := HFG.out _ HBc.out; clear hb)
    | (go_at_call 23; (with_reducible refine (Dpl.out _).mono ?_); rintro e wn ⟨rfl, hb⟩; have HBc := Lib.hid (HBc.out.trans (hb.mono HBc.out.size)); obtain ⟨c0, c1, c2, c3, c4, c5, c6, c7, c8, c9, c10, c11⟩ := HFA.out _ HBc.out; obtain ⟨d0, d1, d2, d3, d4, d5, d6, d7⟩ := HFG.out _ HBc.out; clear hb))
  go_ret
  exact ⟨ret_text HT.out.symm, HB2.out.trans (HBc.out.mono HB2.out.size)⟩
end Go.Proofs.YtkieiclionkllaaDoor
