/-
  DERIVED. The walk of the document's Right: a test.
-/
import Derived.Test.YtkieiclionkllaaDoorGd
namespace Go.Proofs.YtkieiclionkllaaDoor
open Go.RowKit Go.Sort
open Ac
attribute [local go_sem ↓] eql_opd

set_option maxHeartbeats 6400000 in
set_option maxRecDepth 100000 in
theorem rright_test (a : Acn) (h : ¬ (a.kind < 0 ∨ 12 < a.kind ∨ a.pl < 0 ∨ 65536 < a.pl)) (hk : a.kind = 12) (w : World) : Calls Tryd.prog 6 #[.agg a.cs] w fun e w' => e = .returned (.bool (rRight a)) ∧ Below w.heap.size w w' := by
  obtain ⟨q1, q2, q3, q4⟩ : ¬ a.kind < 0 ∧ ¬ 12 < a.kind ∧ ¬ a.pl < 0 ∧ ¬ 65536 < a.pl := by omega
  obtain ⟨hh, hhe⟩ : ∃ hh, hh = hasOf a.kind a.op := ⟨_, rfl⟩
  have HRR : Hid (rRight a = rRest hh.1 hh.2.1 hh.2.2.1 hh.2.2.2.1 hh.2.2.2.2.1 hh.2.2.2.2.2.1 hh.2.2.2.2.2.2.1 hh.2.2.2.2.2.2.2 (0) 2 a) := Lib.hid (by
    unfold rRight rRest
    rw [if_neg h, ← hhe, show Ac.leastOf a.kind = 0 by unfold Ac.leastOf; rw [if_neg (by omega)], show Ac.mostOf a.kind = 2 by unfold Ac.mostOf; rw [if_pos hk]])
  have HB0 : Hid (Bk (w.alloc (.cells a.cs 25)) w.heap.size 25 a.cs) := Lib.hid (heap_alloc_new _ _)
  have HBA : Hid (Below w.heap.size w (w.alloc (.cells a.cs 25))) := Lib.hid ((Below.refl _ _).alloc (Nat.le_refl _) _)
  have HLT : Hid (w.heap.size < (w.alloc (.cells a.cs 25)).heap.size) := Lib.hid (by simp)
  have c0 : (w.alloc (.cells a.cs 25)).cell? ⟨w.heap.size, 0, none⟩ = some (.int .i64 a.kind) := HB0.out.cell 0
  have c5 : (w.alloc (.cells a.cs 25)).cell? ⟨w.heap.size, 5, none⟩ = some (.int .i64 a.pl) := HB0.out.cell 5
  have CH := Lib.hid (has_any a (w.alloc (.cells a.cs 25)))
  rw [← hhe] at CH
  obtain ⟨h0, h1, h2, h3, h4, h5, h6, h7⟩ := hh
  clear hhe h
  go_enter Tryd.func6, Tryd.ntmps6
  go_upto_region 3 with fail
  clear c0 c5
  generalize w.alloc (.cells a.cs 25) = w1 at HB0 HBA HLT CH ⊢
  clear q1 q2 q3 q4
  go_upto_region 4 with (first
    | ((with_reducible show wpList _ _ _ (Oper.mk _ (Op.load 25 _) _ _ _ _ :: _) _ _); refine wpList_load_bk rfl 25 _ rfl w.heap.size 25 a.cs rfl _ HB0.out Tryd.underlying25 rfl size25 ?_)
    | (go_at_call 18; refine CH.out.mono ?_; rintro e wh ⟨rfl, hb⟩; have HBH := Lib.hid hb; clear hb)
    | ((with_reducible show wpList _ _ _ (Oper.mk _ (Op.store 39 _ _) _ _ _ _ :: _) _ _); refine wpList_store_new rfl 39 _ _ rfl _ (hcs (h0, h1, h2, h3, h4, h5, h6, h7)) rfl rfl size39 rfl (hcs_one _) ?_))
  have HB2 : Hid (Below w.heap.size w (wh.alloc (.cells (hcs (h0, h1, h2, h3, h4, h5, h6, h7)) 39))) := Lib.hid ((HBA.out.trans (HBH.out.mono HBA.out.size)).alloc (Nat.le_trans HBA.out.size HBH.out.size) _)
  have HA : Hid (Bk (wh.alloc (.cells (hcs (h0, h1, h2, h3, h4, h5, h6, h7)) 39)) w.heap.size 25 a.cs) := Lib.hid ((HB0.out.below HBH.out HLT.out).below ((Below.refl _ _).alloc (Nat.le_refl _) _) (Nat.lt_of_lt_of_le HLT.out HBH.out.size))
  have HH : Hid (Bk (wh.alloc (.cells (hcs (h0, h1, h2, h3, h4, h5, h6, h7)) 39)) wh.heap.size 39 (hcs (h0, h1, h2, h3, h4, h5, h6, h7))) := Lib.hid (heap_alloc_new _ _)
  generalize wh.alloc (.cells (hcs (h0, h1, h2, h3, h4, h5, h6, h7)) 39) = w2 at HB2 HA HH ⊢
  generalize wh.heap.size = g at HH ⊢
  have c0 : w2.cell? ⟨w.heap.size, 0, none⟩ = some (.int .i64 a.kind) := HA.out.cell 0
  rw [hk] at c0
  clear hk
  go_upto_region 10 with fail
  clear c0
  unfold rRest at HRR
  have c1 : w2.cell? ⟨w.heap.size, 1, none⟩ = some (.int .i64 a.x) := HA.out.cell 1
  have c2 : w2.cell? ⟨w.heap.size, 2, none⟩ = some (.int .i64 a.y) := HA.out.cell 2
  have c3 : w2.cell? ⟨w.heap.size, 3, none⟩ = some (.int .i64 a.f) := HA.out.cell 3
  have c4 : w2.cell? ⟨w.heap.size, 4, none⟩ = some (.int .i64 a.t) := HA.out.cell 4
  have c6 : w2.cell? ⟨w.heap.size, 6, none⟩ = some (.int .i64 a.op) := HA.out.cell 6
  have d0 : w2.cell? ⟨g, 0, none⟩ = some (.bool h0) := HH.out.cell 0
  have d1 : w2.cell? ⟨g, 1, none⟩ = some (.bool h1) := HH.out.cell 1
  have d2 : w2.cell? ⟨g, 2, none⟩ = some (.bool h2) := HH.out.cell 2
  have d3 : w2.cell? ⟨g, 3, none⟩ = some (.bool h3) := HH.out.cell 3
  have d4 : w2.cell? ⟨g, 4, none⟩ = some (.bool h4) := HH.out.cell 4
  go_cut [6] from 39 to 61 (fun c wx => c = .bool (xB h0 (0) a.x) ∧ w2 = wx)
  case first =>
    cases h0
    · rcases hq : (a.x == 0) with _ | _
      · (go_wp2_with fail; go_meet; exact ⟨by rw [xB_f hq], rfl⟩)
      · (go_wp2_with fail; go_meet; exact ⟨by rw [xB_f hq], rfl⟩)
    · by_cases q1 : (0) ≤ a.x
      · by_cases q2 : a.x < 24
        · (go_wp2_with fail; go_meet; exact ⟨by rw [xB_tt q1 q2], rfl⟩)
        · (go_wp2_with fail; go_meet; exact ⟨by rw [xB_tf (by omega)], rfl⟩)
      · (go_wp2_with fail; go_meet; exact ⟨by rw [xB_ft (by omega)], rfl⟩)
  case rest =>
  obtain ⟨rfl, rfl⟩ := hcut
  generalize xB h0 (0) a.x = b6 at HRR ⊢
  clear c1 d0
  go_upto_region 11 with fail
  go_cut [7] from 62 to 84 (fun c wx => c = .bool (xB h1 (0) a.y) ∧ w2 = wx)
  case first =>
    cases h1
    · rcases hq : (a.y == 0) with _ | _
      · (go_wp2_with fail; go_meet; exact ⟨by rw [xB_f hq], rfl⟩)
      · (go_wp2_with fail; go_meet; exact ⟨by rw [xB_f hq], rfl⟩)
    · by_cases q1 : (0) ≤ a.y
      · by_cases q2 : a.y < 24
        · (go_wp2_with fail; go_meet; exact ⟨by rw [xB_tt q1 q2], rfl⟩)
        · (go_wp2_with fail; go_meet; exact ⟨by rw [xB_tf (by omega)], rfl⟩)
      · (go_wp2_with fail; go_meet; exact ⟨by rw [xB_ft (by omega)], rfl⟩)
  case rest =>
  obtain ⟨rfl, rfl⟩ := hcut
  generalize xB h1 (0) a.y = b7 at HRR ⊢
  clear c2 d1
  go_upto_region 12 with fail
  have CN := Lib.hid (fun w => numb_any a.f 8 w)
  have HF : Hid (fB h2 a.f 8 = ((!h2 && decide (a.f = 0)) || (h2 && numB a.f 8))) := Lib.hid rfl
  generalize fB h2 a.f 8 = b8 at HRR HF
  generalize numB a.f 8 = nb at CN HF
  go_cut [8] from 85 to 101 (fun c wx => c = .bool b8 ∧ w2 = wx)
  case first =>
    cases h2
    · rcases hq : (a.f == 0) with _ | _
      · (go_wp2_with fail; go_meet; exact ⟨by rw [HF.out, z_of hq]; rfl, rfl⟩)
      · (go_wp2_with fail; go_meet; exact ⟨by rw [HF.out, z_of hq]; rfl, rfl⟩)
    · (go_wp2_with (go_at_call 19; refine (CN.out _).mono ?_; rintro e wn ⟨rfl, rfl⟩); go_meet; exact ⟨by rw [HF.out]; simp, rfl⟩)
  case rest =>
  obtain ⟨rfl, rfl⟩ := hcut
  clear CN HF
  clear c3 d2
  go_upto_region 13 with fail
  have CN := Lib.hid (fun w => numb_any a.t 8 w)
  have HF : Hid (fB h3 a.t 8 = ((!h3 && decide (a.t = 0)) || (h3 && numB a.t 8))) := Lib.hid rfl
  generalize fB h3 a.t 8 = b9 at HRR HF
  generalize numB a.t 8 = nb at CN HF
  go_cut [9] from 102 to 118 (fun c wx => c = .bool b9 ∧ w2 = wx)
  case first =>
    cases h3
    · rcases hq : (a.t == 0) with _ | _
      · (go_wp2_with fail; go_meet; exact ⟨by rw [HF.out, z_of hq]; rfl, rfl⟩)
      · (go_wp2_with fail; go_meet; exact ⟨by rw [HF.out, z_of hq]; rfl, rfl⟩)
    · (go_wp2_with (go_at_call 19; refine (CN.out _).mono ?_; rintro e wn ⟨rfl, rfl⟩); go_meet; exact ⟨by rw [HF.out]; simp, rfl⟩)
  case rest =>
  obtain ⟨rfl, rfl⟩ := hcut
  clear CN HF
  clear c4 d3
  go_upto_region 14 with fail
  have CN := Lib.hid (fun w => numb_any a.op 2 w)
  have HF : Hid (fB h4 a.op 2 = ((!h4 && decide (a.op = 0)) || (h4 && numB a.op 2))) := Lib.hid rfl
  generalize fB h4 a.op 2 = b10 at HRR HF
  generalize numB a.op 2 = nb at CN HF
  go_cut [10] from 119 to 136 (fun c wx => c = .bool b10 ∧ w2 = wx)
  case first =>
    cases h4
    · rcases hq : (a.op == 0) with _ | _
      · (go_wp2_with fail; go_meet; exact ⟨by rw [HF.out, z_of hq]; rfl, rfl⟩)
      · (go_wp2_with fail; go_meet; exact ⟨by rw [HF.out, z_of hq]; rfl, rfl⟩)
    · (go_wp2_with (go_at_call 19; refine (CN.out _).mono ?_; rintro e wn ⟨rfl, rfl⟩); go_meet; exact ⟨by rw [HF.out]; simp, rfl⟩)
  case rest =>
  obtain ⟨rfl, rfl⟩ := hcut
  clear CN HF
  clear c6 d4
  go_upto_region 15 with fail
  have CO := Lib.hid (operb_any a.l w2)
  have HF : Hid (oB h5 a.l = ((!h5 && opz a.l.v a.l.n) || (h5 && operB a.l))) := Lib.hid rfl
  generalize oB h5 a.l = b11 at HRR HF
  generalize operB a.l = ob at CO HF
  have k7 : w2.cell? ⟨w.heap.size, 7, none⟩ = some (.int .i64 a.l.v) := HA.out.cell 7
  have k7n : w2.cell? ⟨w.heap.size, 7 + 1, none⟩ = some (.int .i64 a.l.n) := HA.out.cell (7 + 1)
  have d11 : w2.cell? ⟨g, 5, none⟩ = some (.bool h5) := HH.out.cell 5
  go_cut [11] from 137 to 154 (fun c wx => c = .bool b11 ∧ Hid (Below w2.heap.size w2 wx))
  case first =>
    cases h5
    · rcases hq : opz a.l.v a.l.n with _ | _
      · (go_wp2_with fail; go_meet; exact ⟨by rw [HF.out, hq]; rfl, Lib.hid (Below.refl _ _)⟩)
      · (go_wp2_with fail; go_meet; exact ⟨by rw [HF.out, hq]; rfl, Lib.hid (Below.refl _ _)⟩)
    · (go_wp2_with (go_at_call 20; refine CO.out.mono ?_; rintro e wn ⟨rfl, hb⟩; have HBN := Lib.hid hb; clear hb); go_meet; exact ⟨by rw [HF.out]; simp, HBN⟩)
  case rest =>
  obtain ⟨rfl, HBw3⟩ := hcut
  obtain ⟨w3, rfl⟩ : ∃ x, x = wc := ⟨_, rfl⟩
  clear CO HF k7 k7n d11
  have HA := Lib.hid (HA.out.below HBw3.out HA.out.lt)
  have HH := Lib.hid (HH.out.below HBw3.out HH.out.lt)
  go_upto_region 16 with fail
  have CO := Lib.hid (operb_any a.r w3)
  have HF : Hid (oB h6 a.r = ((!h6 && opz a.r.v a.r.n) || (h6 && operB a.r))) := Lib.hid rfl
  generalize oB h6 a.r = b12 at HRR HF
  generalize operB a.r = ob at CO HF
  have k9 : w3.cell? ⟨w.heap.size, 9, none⟩ = some (.int .i64 a.r.v) := HA.out.cell 9
  have k9n : w3.cell? ⟨w.heap.size, 9 + 1, none⟩ = some (.int .i64 a.r.n) := HA.out.cell (9 + 1)
  have d12 : w3.cell? ⟨g, 6, none⟩ = some (.bool h6) := HH.out.cell 6
  go_cut [12] from 155 to 172 (fun c wx => c = .bool b12 ∧ Hid (Below w3.heap.size w3 wx))
  case first =>
    cases h6
    · rcases hq : opz a.r.v a.r.n with _ | _
      · (go_wp2_with fail; go_meet; exact ⟨by rw [HF.out, hq]; rfl, Lib.hid (Below.refl _ _)⟩)
      · (go_wp2_with fail; go_meet; exact ⟨by rw [HF.out, hq]; rfl, Lib.hid (Below.refl _ _)⟩)
    · (go_wp2_with (go_at_call 20; refine CO.out.mono ?_; rintro e wn ⟨rfl, hb⟩; have HBN := Lib.hid hb; clear hb); go_meet; exact ⟨by rw [HF.out]; simp, HBN⟩)
  case rest =>
  obtain ⟨rfl, HBw4⟩ := hcut
  obtain ⟨w4, rfl⟩ : ∃ x, x = wc := ⟨_, rfl⟩
  clear CO HF k9 k9n d12
  have HA := Lib.hid (HA.out.below HBw4.out HA.out.lt)
  have HH := Lib.hid (HH.out.below HBw4.out HH.out.lt)
  have d7 : w4.cell? ⟨g, 7, none⟩ = some (.bool h7) := HH.out.cell 7
  have c11 : w4.cell? ⟨w.heap.size, 11, none⟩ = some (.bool a.sense) := HA.out.cell 11
  have HBZ : Hid (Below w.heap.size w w4) := Lib.hid ((HB2.out.trans (HBw3.out.mono HB2.out.size)).trans (HBw4.out.mono (Nat.le_trans HB2.out.size HBw3.out.size)))
  generalize a.sense = sn at *
  cases b6
  · go_wp2_with fail
    go_ret
    exact ⟨lret_bool (by rw [HRR.out]; simp), HBZ.out⟩
  cases b7
  · go_wp2_with fail
    go_ret
    exact ⟨lret_bool (by rw [HRR.out]; simp), HBZ.out⟩
  cases b8
  · go_wp2_with fail
    go_ret
    exact ⟨lret_bool (by rw [HRR.out]; simp), HBZ.out⟩
  cases b9
  · go_wp2_with fail
    go_ret
    exact ⟨lret_bool (by rw [HRR.out]; simp), HBZ.out⟩
  cases b10
  · go_wp2_with fail
    go_ret
    exact ⟨lret_bool (by rw [HRR.out]; simp), HBZ.out⟩
  cases b11
  · go_wp2_with fail
    go_ret
    exact ⟨lret_bool (by rw [HRR.out]; simp), HBZ.out⟩
  cases b12
  · go_wp2_with fail
    go_ret
    exact ⟨lret_bool (by rw [HRR.out]; simp), HBZ.out⟩
  cases h7
  · cases sn
    · go_wp2_with fail
      go_ret
      exact ⟨lret_bool (by rw [HRR.out]; rfl), HBZ.out⟩
    · go_wp2_with fail
      go_ret
      exact ⟨lret_bool (by rw [HRR.out]; rfl), HBZ.out⟩
  · go_wp2_with fail
    go_ret
    exact ⟨lret_bool (by rw [HRR.out]; rfl), HBZ.out⟩
end Go.Proofs.YtkieiclionkllaaDoor
