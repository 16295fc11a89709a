/-
  DERIVED. The law of loops.
-/
import Derived.Test.YtnkimfbdcghgpaaDoorYf
import Derived.Lib.QuietBelow
namespace Go.Proofs.YtnkimfbdcghgpaaDoor
open Go.RowKit Go.Sort

theorem lies_up {w : World} {x y : Nat} {p : Option Addr} {l : List Ed} (h : ELies w x p l) (hy : w.heap.size ≤ y) : ELies w y p l := by
  rcases h with h | ⟨b, o, hp, hb, hr⟩
  · exact .inl h
  · rcases l with _ | ⟨e, l⟩
    · exact .inl rfl
    · refine .inr ⟨b, o, hp, ?_, hr⟩
      have h1 := hr 0 e rfl 0 (.int .i64 e.f) rfl
      have := World.block_lt_of_cell? w _ h1
      simp only at this
      omega
set_option maxHeartbeats 6400000 in
set_option maxRecDepth 100000 in
theorem loops_law (g : Gh) (w : World) (hl : ∀ w' : World, Below w.heap.size w w' → ELies w' w.heap.size g.ep g.es) (hG : Gl w) (h8 : 8 ≤ w.heap.size) : Calls Tryd.prog 3 #[.agg g.cs] w fun e w' => e = .returned (.bool true) ∧ Below w.heap.size w w' := by
  have HK1 : Hid (Bk (w.alloc (.cells g.cs 26)) w.heap.size 26 g.cs) := Lib.hid (heap_alloc_new _ _)
  have HB1 : Hid (Below w.heap.size w (w.alloc (.cells g.cs 26))) := Lib.hid ((Below.refl _ _).alloc (Nat.le_refl _) _)
  have HL := Lib.hid hl
  have HG := Lib.hid hG
  have HLV : Hid (∀ w' : World, Below w.heap.size w w' → Calls Tryd.prog 5 #[] w' fun e w'' => e = .returned (.bool true) ∧ Below w'.heap.size w' w'') := Lib.hid fun w' hb => lives_any w' (HG.out.below hb h8) (Nat.le_trans h8 hb.size)
  clear hl hG
  go_enter Tryd.func3, Tryd.ntmps3
  go_wp2_with (first
    | ((with_reducible show wpList _ _ _ (Oper.mk _ (Op.load 26 _) _ _ _ _ :: _) _ _); refine wpList_load_bk rfl 26 _ rfl w.heap.size 26 g.cs rfl _ HK1.out Tryd.underlying26 rfl size26 ?_)
    | fail)
  refine (few_any g _).mono ?_
  rintro en w2 ⟨⟨b, rfl, hf⟩, hb⟩
  have HF := Lib.hid hf
  have HK2 := Lib.hid (HK1.out.below hb HK1.out.lt)
  have HB2 : Hid (Below w.heap.size w w2) := Lib.hid (HB1.out.trans (hb.mono HB1.out.size))
  clear hb hf HK1 HB1
  have HLV2 := Lib.hid (HLV.out w2 HB2.out)
  have c0 : w2.cell? ⟨w.heap.size, 0, none⟩ = some (.int .i64 g.pts) := HK2.out.cell 0
  by_cases hin : b = true ∧ 1 ≤ g.pts ∧ g.pts ≤ 40
  · obtain ⟨rfl, h1, h40⟩ := hin
    obtain ⟨n, hn⟩ : ∃ n : Nat, g.pts = n := ⟨g.pts.toNat, by omega⟩
    have HPN := Lib.hid hn
    have HN : Hid (1 ≤ n ∧ n ≤ 40 ∧ g.es.length ≤ 400) := Lib.hid ⟨by omega, by omega, HF.out rfl⟩
    have hn1 : n * g.es.length ≤ 40000 := by
      have h1 := HN.out.2.1
      have h2 := HN.out.2.2
      exact Nat.le_trans (Nat.mul_le_mul h1 h2) (by decide)
    obtain ⟨cb, hcb⟩ : ∃ cb : Bool, cb = true ↔ Circ (web g.es n) := by
      by_cases hc : Circ (web g.es n)
      · exact ⟨true, fun _ => hc, fun _ => rfl⟩
      · exact ⟨false, fun e => (by cases e), fun e => absurd e hc⟩
    have HCB := Lib.hid hcb
    have HLO : Hid (∀ w' : World, Below w.heap.size w w' → Calls Tryd.prog 8 #[.agg g.cs] w' fun e w'' => e = .returned (.bool cb) ∧ Below w'.heap.size w' w'') := Lib.hid fun w' hb => (loopsG_any g n hn HN.out.1 (by have := HN.out.2.1; omega) (by have := HN.out.2.2; omega) hn1 w.heap.size w' (HL.out w' hb)).mono fun e w'' ⟨r, he, hr, hb2⟩ => ⟨by
      rw [he]
      have : r = cb := by
        rcases r with _ | _ <;> rcases cb with _ | _ <;> simp_all
      rw [this], hb2⟩
    have HCU : Hid (g.hn = 0 → ∀ w' : World, Below w.heap.size w w' → Calls Tryd.prog 7 #[.agg g.cs] w' fun e w'' => e = .returned (.bool (!cb)) ∧ Below w'.heap.size w' w'') := Lib.hid fun hh w' hb => (cut_any g n hn HN.out.1 (by have := HN.out.2.1; omega) (by have := HN.out.2.2; omega) hn1 hh w' (lies_up (HL.out w' hb) (Nat.le_refl _))).mono fun e w'' ⟨r, he, hr, hb2⟩ => ⟨by
      rw [he]
      have : r = !cb := by
        rcases r with _ | _ <;> rcases cb with _ | _ <;> simp_all
      rw [this], hb2⟩
    clear hcb hn1
    have h1' : ¬ (n : Int) < 1 := by omega
    have h40' : ¬ 40 < (n : Int) := by omega
    clear hn
    rw [HPN.out] at c0
    go_wp2_with fail
    clear c0
    go_loopw [4, 3] (fun si sr wr => ∃ k : Nat, si = .int .i64 k ∧ k ≤ g.es.length ∧ ∃ rnd : Bool, sr = .bool rnd ∧ Hid (rnd = true ↔ Back g.es n k) ∧ Hid (Below w.heap.size w wr) ∧ Hid (Bk wr w.heap.size 26 g.cs)) (fun si _ _ => g.es.length - (Lib.intOf si).toNat)
    case atStart => exact ⟨0, rfl, Nat.zero_le _, false, rfl, Lib.hid ⟨fun e => (by cases e), fun h => absurd h (back_zero _ _)⟩, HB2, HK2⟩
    case round =>
      obtain ⟨k, rfl, hk, rnd, rfl, HBS, HBR, HKR⟩ := hrel
      have c4 : wr.cell? ⟨w.heap.size, 4, none⟩ = some (.slice g.ep g.es.length g.ec) := HKR.out.cell 4
      have hen : g.es.length ≤ 400 := HN.out.2.2
      by_cases hlt : k < g.es.length
      · obtain ⟨e, hek⟩ : ∃ e, g.es[k]? = some e := ⟨_, List.getElem?_eq_getElem hlt⟩
        have HEK := Lib.hid hek
        obtain ⟨eb0, eo, hep, -, hr⟩ := (HL.out wr HBR.out).at_ hek
        have HRR := Lib.hid hr
        rw [hep] at c4
        have hlt' : (k : Int) < (g.es.length : Int) := by omega
        have HE := Lib.hid (heap_alloc_new wr (.cells e.cs 34))
        have HEB : Hid (Bk (wr.alloc (.cells e.cs 34)) wr.heap.size 34 e.cs) := HE
        have hal : Below wr.heap.size wr (wr.alloc (.cells e.cs 34)) := (Below.refl _ _).alloc (Nat.le_refl _) _
        have HKE := Lib.hid (HKR.out.below hal HKR.out.lt)
        have HBE : Hid (Below w.heap.size w (wr.alloc (.cells e.cs 34))) := Lib.hid (HBR.out.trans (hal.mono HBR.out.size))
        have hne : w.heap.size ≠ wr.heap.size := by have := HKR.out.lt; omega
        have d0 : (wr.alloc (.cells e.cs 34)).cell? ⟨wr.heap.size, 0, none⟩ = some (.int .i64 e.f) := HEB.out.cell 0
        have d1 : (wr.alloc (.cells e.cs 34)).cell? ⟨wr.heap.size, 1, none⟩ = some (.int .i64 e.t) := HEB.out.cell 1
        have c0 : (wr.alloc (.cells e.cs 34)).cell? ⟨w.heap.size, 0, none⟩ = some (.int .i64 n) := by rw [← HPN.out]; exact HKE.out.cell 0
        have c4' : ∀ o, (wr.alloc o).cell? ⟨w.heap.size, 4, none⟩ = some (.slice (some ⟨eb0, eo, none⟩) g.es.length g.ec) := fun o => (World.cell?_alloc_lt wr o ⟨w.heap.size, 4, none⟩ HKR.out.lt).trans c4
        clear hal hr hep hek HE
        by_cases hok : okE n e = true
        · have HOK := Lib.hid hok
          have hok2 : isPt n e.f = true ∧ isPt n e.t = true := by unfold okE at hok; exact (Bool.and_eq_true _ _) ▸ hok
          have hf := isPt_iff.1 hok2.1
          have ht := isPt_iff.1 hok2.2
          obtain ⟨fi, hfi⟩ : ∃ fi : Nat, e.f = (fi : Int) := ⟨e.f.toNat, by omega⟩
          obtain ⟨ti, hti⟩ : ∃ ti : Nat, e.t = (ti : Int) := ⟨e.t.toNat, by omega⟩
          have HFI := Lib.hid (And.intro hfi hti)
          rw [hfi] at d0 hf
          rw [hti] at d1 ht
          have hf' := hf.2
          have ht' := ht.2
          clear hok hok2 hfi hti hf ht
          have HFT : Hid (fi < n ∧ ti < n) := Lib.hid ⟨by omega, by omega⟩
          go_wp2_with (first
            | ((with_reducible show wpList _ _ _ (Oper.mk _ (Op.load 34 _) _ _ _ _ :: _) _ _); refine wpList_load_arr rfl 34 _ rfl eb0 (eo + k * 14) (by simp [Act.eval]) e.cs _ HRR.out Tryd.underlying34 rfl size34 ?_)
            | ((with_reducible show wpList _ _ _ (Oper.mk _ (Op.store 34 _ _) _ _ _ _ :: _) _ _); refine wpList_store_new rfl 34 _ _ rfl _ e.cs rfl rfl size34 rfl (Ed.one e) ?_)
            | ((with_reducible show wpList _ _ _ (Oper.mk _ (Op.load 26 _) _ _ _ _ :: _) _ _); refine wpList_load_bk rfl 26 _ rfl w.heap.size 26 g.cs rfl _ HKE.out Tryd.underlying26 rfl size26 ?_)
            | fail)
          refine (from_any g n HPN.out HN.out.1 (by have := HN.out.2.1; omega) (by have := HN.out.2.2; omega) w.heap.size _ (HL.out _ HBE.out) ti HFT.out.2).mono ?_
          rintro en w4 ⟨rb, bs, rfl, hrb, hbl, hbs, hb⟩
          have HK4 := Lib.hid (HKE.out.below hb HKE.out.lt)
          have HE4 := Lib.hid (HEB.out.below hb HEB.out.lt)
          have HB4 : Hid (Below w.heap.size w w4) := Lib.hid (HBE.out.trans (hb.mono HBE.out.size))
          have c0 : w4.cell? ⟨w.heap.size, 0, none⟩ = some (.int .i64 n) := by rw [← HPN.out]; exact HK4.out.cell 0
          have d0 : w4.cell? ⟨wr.heap.size, 0, none⟩ = some (.int .i64 fi) := by rw [← HFI.out.1]; exact HE4.out.cell 0
          have d1 : w4.cell? ⟨wr.heap.size, 1, none⟩ = some (.int .i64 ti) := by rw [← HFI.out.2]; exact HE4.out.cell 1
          obtain ⟨z, hz⟩ : ∃ z, bs[fi]? = some z := ⟨_, List.getElem?_eq_getElem (by rw [hbl]; exact HFT.out.1)⟩
          have l1 : w4.cell? ⟨rb, ti, none⟩ = some (.bool true) := by
            have := (hbs ti).2 .refl
            rw [hrb.cell]; simp [this]
          have l2 : w4.cell? ⟨rb, fi, none⟩ = some (.bool z) := by rw [hrb.cell]; simp [hz]
          have HZ : Hid (z = true ↔ Rs (web g.es n) ti fi) := Lib.hid (by rw [← hbs fi, hz]; simp)
          have HNX : Hid (∀ r : Bool, (r = true ↔ (rnd = true ∨ z = true)) → (r = true ↔ Back g.es n (k + 1))) := Lib.hid fun r hr => by
            rw [hr, back_succ HEK.out, HBS.out, HZ.out, HOK.out, HFI.out.1, HFI.out.2]
            simp
          clear hrb hbl hbs hb hz HKE HEB c4 c4'
          rcases rnd with _ | _
          · go_wp2_with fail
            go_roundw
            case rel => exact ⟨k + 1, by go_num, by omega, z, rfl, Lib.hid (HNX.out z (by simp)), HB4, HK4⟩
            case measure => simp [Lib.intOf]; omega
          · go_wp2_with fail
            go_roundw
            case rel => exact ⟨k + 1, by go_num, by omega, true, rfl, Lib.hid (HNX.out true (by simp)), HB4, HK4⟩
            case measure => simp [Lib.intOf]; omega
        · have HOK : Hid (okE n e = false) := Lib.hid (by simpa using hok)
          have hcase : e.f < 0 ∨ (0 ≤ e.f ∧ (n : Int) ≤ e.f) ∨ ((0 ≤ e.f ∧ e.f < (n : Int)) ∧ e.t < 0) ∨ ((0 ≤ e.f ∧ e.f < (n : Int)) ∧ (0 ≤ e.t ∧ (n : Int) ≤ e.t)) := by
            have h3 : ¬ (isPt n e.f = true ∧ isPt n e.t = true) := fun h => hok (by unfold okE; rw [h.1, h.2]; rfl)
            rw [isPt_iff, isPt_iff] at h3
            omega
          clear hok
          generalize e.f = ef at *
          generalize e.t = et at *
          rcases hcase with h | ⟨h, h'⟩ | ⟨⟨h, h'⟩, h''⟩ | ⟨⟨h, h'⟩, h'', h'''⟩
          · go_wp2_with (first
          | ((with_reducible show wpList _ _ _ (Oper.mk _ (Op.load 34 _) _ _ _ _ :: _) _ _); refine wpList_load_arr rfl 34 _ rfl eb0 (eo + k * 14) (by simp [Act.eval]) e.cs _ HRR.out Tryd.underlying34 rfl size34 ?_)
          | ((with_reducible show wpList _ _ _ (Oper.mk _ (Op.store 34 _ _) _ _ _ _ :: _) _ _); refine wpList_store_new rfl 34 _ _ rfl _ e.cs rfl rfl size34 rfl (Ed.one e) ?_)
          | ((with_reducible show wpList _ _ _ (Oper.mk _ (Op.load 26 _) _ _ _ _ :: _) _ _); refine wpList_load_bk rfl 26 _ rfl w.heap.size 26 g.cs rfl _ HKE.out Tryd.underlying26 rfl size26 ?_)
          | fail)
            go_roundw
            case rel => exact ⟨k + 1, by go_num, by omega, rnd, rfl, Lib.hid (by rw [HBS.out, back_succ HEK.out, HOK.out]; simp), HBE, HKE⟩
            case measure => simp [Lib.intOf]; omega
          · go_wp2_with (first
          | ((with_reducible show wpList _ _ _ (Oper.mk _ (Op.load 34 _) _ _ _ _ :: _) _ _); refine wpList_load_arr rfl 34 _ rfl eb0 (eo + k * 14) (by simp [Act.eval]) e.cs _ HRR.out Tryd.underlying34 rfl size34 ?_)
          | ((with_reducible show wpList _ _ _ (Oper.mk _ (Op.store 34 _ _) _ _ _ _ :: _) _ _); refine wpList_store_new rfl 34 _ _ rfl _ e.cs rfl rfl size34 rfl (Ed.one e) ?_)
          | ((with_reducible show wpList _ _ _ (Oper.mk _ (Op.load 26 _) _ _ _ _ :: _) _ _); refine wpList_load_bk rfl 26 _ rfl w.heap.size 26 g.cs rfl _ HKE.out Tryd.underlying26 rfl size26 ?_)
          | fail)
            go_roundw
            case rel => exact ⟨k + 1, by go_num, by omega, rnd, rfl, Lib.hid (by rw [HBS.out, back_succ HEK.out, HOK.out]; simp), HBE, HKE⟩
            case measure => simp [Lib.intOf]; omega
          · go_wp2_with (first
          | ((with_reducible show wpList _ _ _ (Oper.mk _ (Op.load 34 _) _ _ _ _ :: _) _ _); refine wpList_load_arr rfl 34 _ rfl eb0 (eo + k * 14) (by simp [Act.eval]) e.cs _ HRR.out Tryd.underlying34 rfl size34 ?_)
          | ((with_reducible show wpList _ _ _ (Oper.mk _ (Op.store 34 _ _) _ _ _ _ :: _) _ _); refine wpList_store_new rfl 34 _ _ rfl _ e.cs rfl rfl size34 rfl (Ed.one e) ?_)
          | ((with_reducible show wpList _ _ _ (Oper.mk _ (Op.load 26 _) _ _ _ _ :: _) _ _); refine wpList_load_bk rfl 26 _ rfl w.heap.size 26 g.cs rfl _ HKE.out Tryd.underlying26 rfl size26 ?_)
          | fail)
            go_roundw
            case rel => exact ⟨k + 1, by go_num, by omega, rnd, rfl, Lib.hid (by rw [HBS.out, back_succ HEK.out, HOK.out]; simp), HBE, HKE⟩
            case measure => simp [Lib.intOf]; omega
          · go_wp2_with (first
          | ((with_reducible show wpList _ _ _ (Oper.mk _ (Op.load 34 _) _ _ _ _ :: _) _ _); refine wpList_load_arr rfl 34 _ rfl eb0 (eo + k * 14) (by simp [Act.eval]) e.cs _ HRR.out Tryd.underlying34 rfl size34 ?_)
          | ((with_reducible show wpList _ _ _ (Oper.mk _ (Op.store 34 _ _) _ _ _ _ :: _) _ _); refine wpList_store_new rfl 34 _ _ rfl _ e.cs rfl rfl size34 rfl (Ed.one e) ?_)
          | ((with_reducible show wpList _ _ _ (Oper.mk _ (Op.load 26 _) _ _ _ _ :: _) _ _); refine wpList_load_bk rfl 26 _ rfl w.heap.size 26 g.cs rfl _ HKE.out Tryd.underlying26 rfl size26 ?_)
          | fail)
            go_roundw
            case rel => exact ⟨k + 1, by go_num, by omega, rnd, rfl, Lib.hid (by rw [HBS.out, back_succ HEK.out, HOK.out]; simp), HBE, HKE⟩
            case measure => simp [Lib.intOf]; omega
      · have hke : k = g.es.length := by omega
        subst hke
        go_wp2_with fail
        have HRC : Hid (rnd = cb) := Lib.hid (by
          have h1 := HBS.out
          rw [← circ_back, ← HCB.out] at h1
          rcases rnd with _ | _ <;> rcases cb with _ | _ <;> simp_all)
        have c5 : wr.cell? ⟨w.heap.size, 5, none⟩ = some (.slice g.hp g.hn g.hc) := HKR.out.cell 5
        have cF : ∀ dd os, (grow (redrawn wr dd) os).cell? ⟨w.heap.size, 5, none⟩ = some (.slice g.hp g.hn g.hc) := fun dd os => cell_regrown c5 dd os
        have HRG : Hid (∀ w' : World, (∃ p : Regrown, w' = grow (redrawn wr p.d) p.os) → w'.rangeAt w.heap.size 0 g.cs.toList) := Lib.hid (by
          rintro w' ⟨p, rfl⟩
          exact (HKR.out.below (below_regrown wr p.d p.os) HKR.out.lt).range)
        have CL : Hid (∀ dd os, Calls Tryd.prog 8 #[.agg g.cs] (grow (redrawn wr dd) os) fun e w'' => e = .returned (.bool cb) ∧ ∃ p : Regrown, w'' = grow (redrawn wr p.d) p.os) := Lib.hid fun dd os => Calls.regrown_of (HLO.out _ (HBR.out.trans ((below_regrown wr dd os).mono HBR.out.size)))
        clear c4
        by_cases hz : g.hn = 0
        · have CC : Hid (∀ dd os, Calls Tryd.prog 7 #[.agg g.cs] (grow (redrawn wr dd) os) fun e w'' => e = .returned (.bool (!cb)) ∧ ∃ p : Regrown, w'' = grow (redrawn wr p.d) p.os) := Lib.hid fun dd os => Calls.regrown_of (HCU.out hz _ (HBR.out.trans ((below_regrown wr dd os).mono HBR.out.size)))
          have cF0 : ∀ dd os, (grow (redrawn wr dd) os).cell? ⟨w.heap.size, 5, none⟩ = some (.slice g.hp 0 g.hc) := fun dd os => by rw [cF dd os, hz]
          clear hz c5 cF
          refine wp_region_quiet_below (by kernel_rfl) (by kernel_rfl) ?_
          repeat (first
            | ((with_reducible show wpQuiet _ _ _ _ (Oper.mk _ (Op.load 26 _) _ _ _ _ :: _) _); refine wpQuiet_load rfl 26 (.tmp 1) rfl w.heap.size 0 rfl g.cs _ HRG.out Tryd.underlying26 rfl size26 ?_; simp only [Act.put, List.setIfInBounds_toArray, List.set_cons_zero, List.set_cons_succ])
            | (go_big_quiet_step (first | (with_reducible exact cF0 _ _) | (with_reducible exact CC.out _ _) | (with_reducible exact CL.out _ _))))
          refine wpQuiet_nil ?_
          intro _ hw'
          obtain ⟨⟨dq, osq⟩, hw''⟩ := hw'
          subst hw''
          have HB6 : Hid (Below w.heap.size w (grow (redrawn wr dq) osq)) := Lib.hid (HBR.out.trans ((below_regrown wr dq osq).mono HBR.out.size))
          have HK6 : Hid (Bk (grow (redrawn wr dq) osq) w.heap.size 26 g.cs) := Lib.hid (HKR.out.below (below_regrown wr dq osq) HKR.out.lt)
          have HL6 := Lib.hid (HLO.out _ HB6.out)
          generalize grow (redrawn wr dq) osq = w6 at HB6 HK6 HL6 ⊢
          have hcc : ((!cb) == cb) = false := by cases cb <;> rfl
          go_wp2_with (first
            | ((with_reducible show wpList _ _ _ (Oper.mk _ (Op.load 26 _) _ _ _ _ :: _) _ _); refine wpList_load_bk rfl 26 _ rfl w.heap.size 26 g.cs rfl _ HK6.out Tryd.underlying26 rfl size26 ?_)
            | fail)
          refine (HL6.out).mono ?_
          rintro en w7 ⟨rfl, hb⟩
          have HB7 : Hid (Below w.heap.size w w7) := Lib.hid (HB6.out.trans (hb.mono HB6.out.size))
          have HV7 := Lib.hid (HLV.out w7 HB7.out)
          obtain rfl := HRC.out
          clear hb
          go_wp2_with (go_at_call 5; refine (HV7.out).mono ?_; rintro en w8 ⟨rfl, hb⟩; have HB8 := Lib.hid hb; clear hb)
          go_ret
          exact ⟨rfl, HB7.out.trans (HB8.out.mono HB7.out.size)⟩
        · have hz' : ((g.hn : Int) == 0) = false := by simp; omega
          refine wp_region_quiet_below (by kernel_rfl) (by kernel_rfl) ?_
          repeat (go_big_quiet_step (with_reducible exact cF _ _))
          refine wpQuiet_nil ?_
          intro _ hw'
          obtain ⟨⟨dq, osq⟩, hw''⟩ := hw'
          subst hw''
          have HB6 : Hid (Below w.heap.size w (grow (redrawn wr dq) osq)) := Lib.hid (HBR.out.trans ((below_regrown wr dq osq).mono HBR.out.size))
          have HK6 : Hid (Bk (grow (redrawn wr dq) osq) w.heap.size 26 g.cs) := Lib.hid (HKR.out.below (below_regrown wr dq osq) HKR.out.lt)
          have HL6 := Lib.hid (HLO.out _ HB6.out)
          generalize grow (redrawn wr dq) osq = w6 at HB6 HK6 HL6 ⊢
          go_wp2_with (first
            | ((with_reducible show wpList _ _ _ (Oper.mk _ (Op.load 26 _) _ _ _ _ :: _) _ _); refine wpList_load_bk rfl 26 _ rfl w.heap.size 26 g.cs rfl _ HK6.out Tryd.underlying26 rfl size26 ?_)
            | fail)
          refine (HL6.out).mono ?_
          rintro en w7 ⟨rfl, hb⟩
          have HB7 : Hid (Below w.heap.size w w7) := Lib.hid (HB6.out.trans (hb.mono HB6.out.size))
          have HV7 := Lib.hid (HLV.out w7 HB7.out)
          obtain rfl := HRC.out
          clear hb
          go_wp2_with (go_at_call 5; refine (HV7.out).mono ?_; rintro en w8 ⟨rfl, hb⟩; have HB8 := Lib.hid hb; clear hb)
          go_ret
          exact ⟨rfl, HB7.out.trans (HB8.out.mono HB7.out.size)⟩
  · have hbad : b = false ∨ g.pts < 1 ∨ 40 < g.pts := by
      rcases b with _ | _
      · exact .inl rfl
      · right
        by_cases h1 : g.pts < 1
        · exact .inl h1
        · right; apply Int.lt_of_not_ge; intro h2; exact hin ⟨rfl, by omega, h2⟩
    clear hin
    rcases hbad with rfl | hbad
    · go_wp2_with (go_at_call 5; refine (HLV2.out).mono ?_; rintro en w3 ⟨rfl, hb⟩; have HB3 := Lib.hid hb; clear hb)
      go_ret
      exact ⟨rfl, HB2.out.trans (HB3.out.mono HB2.out.size)⟩
    · rcases b with _ | _
      · go_wp2_with (go_at_call 5; refine (HLV2.out).mono ?_; rintro en w3 ⟨rfl, hb⟩; have HB3 := Lib.hid hb; clear hb)
        go_ret
        exact ⟨rfl, HB2.out.trans (HB3.out.mono HB2.out.size)⟩
      · by_cases h1 : g.pts < 1
        · go_wp2_with (go_at_call 5; refine (HLV2.out).mono ?_; rintro en w3 ⟨rfl, hb⟩; have HB3 := Lib.hid hb; clear hb)
          go_ret
          exact ⟨rfl, HB2.out.trans (HB3.out.mono HB2.out.size)⟩
        · have h40 : 40 < g.pts := hbad.resolve_left h1
          go_wp2_with (go_at_call 5; refine (HLV2.out).mono ?_; rintro en w3 ⟨rfl, hb⟩; have HB3 := Lib.hid hb; clear hb)
          go_ret
          exact ⟨rfl, HB2.out.trans (HB3.out.mono HB2.out.size)⟩
end Go.Proofs.YtnkimfbdcghgpaaDoor
