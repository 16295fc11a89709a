/-
  DERIVED. The walk of the law ActionBack.
-/
import Derived.Test.YtkieiclionkllaaDoorEd
namespace Go.Proofs.YtkieiclionkllaaDoor
open Go.RowKit Go.Sort
open Ac

theorem neq_same {w : World} (a : Acn) : (binOp .neq 25 (.agg a.cs) (.agg a.cs)).run Tryd.prog w = .ok (.bool false) w := by
  have := neq_acn (w := w) a a
  rwa [decide_eq_true rfl] at this
theorem eql_same {w : World} (a : Acn) : (binOp .eql 25 (.agg a.cs) (.agg a.cs)).run Tryd.prog w = .ok (.bool true) w := by
  have := eql_acn (w := w) a a
  rwa [decide_eq_true rfl] at this
theorem eql_zz {w : World} : (binOp .eql 25 (.agg Acn.zero.cs) (.agg #[.int .i64 0, .int .i64 0, .int .i64 0, .int .i64 0, .int .i64 0, .int .i64 0, .int .i64 0, .int .i64 0, .int .i64 0, .int .i64 0, .int .i64 0, .bool false])).run Tryd.prog w = .ok (.bool true) w := eql_same Acn.zero
attribute [local go_sem ↓] neq_same eql_same eql_zz
namespace Ac
theorem not_ok {a : Acn} (h : a.ok) : (Ac.not a).ok := by
  obtain ⟨h1, h2, h3, h4, h5, h6, h7, h8, h9, h10, h11⟩ := h
  unfold Ac.not
  split <;> exact ⟨h1, h2, h3, h4, h5, h6, h7, h8, h9, h10, h11⟩
theorem rds_ok : ∀ (ps : List Nat) (l : List UInt8) (a : Acn), (∀ p ∈ ps, p ≤ 13) → a.ok → (rds ps (l, a)).2.ok
  | [], _, _, _, h => h
  | p :: ps, l, a, hp, h => by
    have := rds_ok ps (rd p (l, a)).1 (rd p (l, a)).2 (fun q hq => hp q (List.mem_cons_of_mem _ hq)) (rd_ok h p (hp p (List.mem_cons_self ..)) l)
    exact this
theorem parse_ok {l : List UInt8} {c : Acn} (h : parse l = some c) : c.ok := by
  unfold parse at h
  split at h
  · cases h
  · rename_i k hk
    split at h
    · injection h with h
      rw [← h]
      exact rds_ok _ _ _ (form_le k) (kind_ok k (kindOf_lt hk))
    · cases h
end Ac
set_option maxHeartbeats 3200000 in
set_option maxRecDepth 100000 in
theorem back_any (a : Acn) (ho : a.ok) (l : List UInt8) (hml : (bt l).size ≤ maxLen) (w : World) (hG : Gl w) : Calls Tryd.prog 4 #[.agg a.cs, .string (bt l)] w fun e w' => e = .returned (.bool true) ∧ Below w.heap.size w w' := by
  unfold maxLen at hml
  obtain ⟨wA, hwA⟩ : ∃ wA : World, wA = w.alloc (.cells a.cs 25) := ⟨_, rfl⟩
  have HBA : Hid (Below w.heap.size w wA) := Lib.hid (by rw [hwA]; exact (Below.refl _ _).alloc (Nat.le_refl _) _)
  have HKA : Hid (Bk wA w.heap.size 25 a.cs) := Lib.hid (by rw [hwA]; exact heap_alloc_new _ _)
  have HS : Hid (11 ≤ w.heap.size) := Lib.hid hG.big
  have HG := Lib.hid hG
  have HGA : Hid (Gl wA) := Lib.hid (hG.below HBA.out HS.out)
  have CL : Hid (∀ w', Below w.heap.size w w' → Calls Tryd.prog 15 #[] w' fun e w'' => e = .returned (.bool true) ∧ Below w'.heap.size w' w'') := Lib.hid (fun w' hb => lives_any w' (HG.out.below hb HS.out))
  clear hG
  by_cases hlen : l.length ≤ 1000
  case neg =>
    have hz : 1000 < (bt l).size := by rw [bt_size]; omega
    clear hlen
    generalize bt l = t at *
    go_enter Tryd.func4, Tryd.ntmps4
    go_upto_region 1 with fail
    rw [← hwA]
    clear hwA
    go_wp2_with (go_at_call 15; refine (CL.out _ HBA.out).mono ?_; rintro e w1 ⟨rfl, hb⟩; have HB1 := Lib.hid hb; clear hb)
    go_ret
    exact ⟨rfl, HBA.out.trans (HB1.out.mono HBA.out.size)⟩
  have hz : (bt l).size ≤ 1000 := by rw [bt_size]; exact hlen
  have CP : Hid (∀ k : List UInt8, k.length ≤ 100000 → ∀ w', Below wA.heap.size wA w' → Calls Tryd.prog 16 #[.string (bt k)] w' fun e w'' => PaPost k e ∧ Below w'.heap.size w' w'') := Lib.hid (fun k hk w' hb => parse_any k hk w' (HGA.out.below hb (Nat.le_trans HS.out HBA.out.size)))
  have HBc : Hid (Below wA.heap.size wA wA) := Lib.hid (Below.refl _ _)
  have HKX : Hid (∀ w', Below wA.heap.size wA w' → Bk w' w.heap.size 25 a.cs) := Lib.hid (fun w' hb => HKA.out.below hb HKA.out.lt)
  have HUP : Hid (∀ w', Below wA.heap.size wA w' → Below w.heap.size w w') := Lib.hid (fun w' hb => HBA.out.trans (hb.mono HBA.out.size))
  have HGX : Hid (∀ w', Below wA.heap.size wA w' → Gl w') := Lib.hid (fun w' hb => HGA.out.below hb (Nat.le_trans HS.out HBA.out.size))
  have CTA := Lib.hid (text_any a ho wA HGA.out)
  obtain ⟨q, hq⟩ : ∃ q, q = rights a := ⟨_, rfl⟩
  obtain ⟨b0, ec, hpa, hst⟩ : ∃ (b0 : Acn) (ec : Int), (PaPost (text a) (.returned (.tuple #[.agg b0.cs, .int .i64 ec]))) ∧ ((q = true ∧ a = b0 ∧ ec = 0 ∧ text a ≠ []) ∨ (q = false ∧ ec = 13 ∧ text a = [])) := by
    cases hr : rights a
    · have ht : text a = [] := (text_ne a).2 hr
      exact ⟨Acn.zero, 13, by rw [ht]; exact pa_none parse_nil, .inr ⟨by rw [hq, hr], rfl, ht⟩⟩
    · exact ⟨a, 0, pa_some (back a hr), .inl ⟨by rw [hq, hr], rfl, rfl, fun e => by rw [(text_ne a).1 e] at hr; cases hr⟩⟩
  have CRA : Hid (∀ w', Below wA.heap.size wA w' → Calls Tryd.prog 5 #[.agg a.cs] w' fun e w'' => e = .returned (.bool q) ∧ Below w'.heap.size w' w'') := Lib.hid (fun w' hb => by rw [hq]; exact right_any a w' (HGX.out w' hb))
  have htl : (text a).length ≤ 100000 := by
    unfold text
    split
    · rename_i hr
      have h1 := txts_len _ a (parts_ok a ho hr)
      have h2 := word_len a.kind.toNat
      have h3 : (formOf a.kind.toNat).length ≤ 5 := by obtain ⟨k1, k2, _⟩ := rights_k hr; rw [form_len _ (by omega)]; exact Nat.le_refl _
      rw [List.length_append]; omega
    · simp
  have CPA : Hid (∀ w', Below wA.heap.size wA w' → Calls Tryd.prog 16 #[.string (bt (text a))] w' fun e w'' => e = .returned (.tuple #[.agg b0.cs, .int .i64 ec]) ∧ Below w'.heap.size w' w'') := Lib.hid (fun w' hb => (CP.out _ htl w' hb).mono fun e w'' hh => ⟨by
    have h1 := hh.1
    unfold PaPost at h1 hpa
    rw [h1, ← hpa], hh.2⟩)
  have CPS := Lib.hid (CP.out l (by omega))
  have hte : ((bt (text a)).toList == []) = decide (text a = []) := bt_beq _ _
  have HPF : Hid (∀ c, parse l = some c → c.ok ∧ text c = l ∧ rights c = true) := Lib.hid (fun c hc => ⟨parse_ok hc, (parse_some hc).1, (parse_some hc).2⟩)
  have HPN : Hid (∀ e, PaPost l e → (∃ c, parse l = some c ∧ e = .returned (.tuple #[.agg c.cs, .int .i64 0])) ∨ e = .returned (.tuple #[.agg Acn.zero.cs, .int .i64 13])) := Lib.hid (fun e he => by
    unfold PaPost at he
    cases hc : parse l with
    | none => rw [hc] at he; exact .inr he
    | some c => rw [hc] at he; exact .inl ⟨c, rfl, he⟩)
  clear hq hpa htl CP ho hml
  generalize bt (text a) = tx at *
  obtain ⟨t, ht⟩ : ∃ t, t = bt l := ⟨_, rfl⟩
  rw [← ht] at CPS hz ⊢
  have HTT := Lib.hid ht
  clear ht
  rcases hst with ⟨rfl, rfl, rfl, hne⟩ | ⟨rfl, rfl, hne⟩
  · rw [decide_eq_false hne] at hte
    clear hne
    go_enter Tryd.func4, Tryd.ntmps4
    go_upto_region 1 with fail
    rw [← hwA]
    clear hwA
    go_upto_region 5 with (first
    | ((with_reducible show wpList _ _ _ (Oper.mk (some 14) (Op.load 25 _) _ _ _ _ :: _) _ _); refine wpList_load_bk rfl 25 _ rfl w.heap.size 25 a.cs rfl _ (HKX.out _ HBc.out) Tryd.underlying25 rfl size25 ?_)
    | (go_at_call 7; refine CTA.out.mono ?_; rintro e w1 ⟨rfl, hb⟩; have HBc := Lib.hid hb; clear hb)
    | (go_at_call 16; refine (CPA.out _ HBc.out).mono ?_; rintro e w2 ⟨rfl, hb⟩; have HBc2 := Lib.hid (HBc.out.trans (hb.mono HBc.out.size)); clear hb)
    | ((with_reducible show wpList _ _ _ (Oper.mk _ (Op.store 25 _ _) _ _ _ _ :: _) _ _); refine wpList_store_new rfl 25 _ _ rfl _ a.cs rfl rfl size25 rfl (cs_one _) ?_))
    have HBc : Hid (Below wA.heap.size wA (w2.alloc (.cells a.cs 25))) := Lib.hid (HBc2.out.alloc HBc2.out.size _)
    have HK3 : Hid (Bk (w2.alloc (.cells a.cs 25)) w2.heap.size 25 a.cs) := Lib.hid (heap_alloc_new _ _)
    generalize w2.alloc (.cells a.cs 25) = w3 at HBc HK3 ⊢
    have HKB : Hid (∀ w', Below w3.heap.size w3 w' → Bk w' w2.heap.size 25 a.cs) := Lib.hid (fun w' hb => HK3.out.below hb HK3.out.lt)
    have HBd : Hid (Below w3.heap.size w3 w3) := Lib.hid (Below.refl _ _)
    go_upto_region 7 with (first
    | ((with_reducible show wpList _ _ _ (Oper.mk (some 21) (Op.load 25 _) _ _ _ _ :: _) _ _); refine wpList_load_bk rfl 25 _ rfl w.heap.size 25 a.cs rfl _ (HKX.out _ HBc.out) Tryd.underlying25 rfl size25 ?_)
    | ((with_reducible show wpList _ _ _ (Oper.mk (some 27) (Op.load 25 _) _ _ _ _ :: _) _ _); refine wpList_load_arr_g 25 _ rfl rfl w.heap.size 0 rfl a.cs _ (HKX.out _ HBc.out).range Tryd.underlying25 rfl size25 ?_)
    | ((with_reducible show wpList _ _ _ (Oper.mk (some 33) (Op.load 25 _) _ _ _ _ :: _) _ _); refine wpList_load_arr_g 25 _ rfl rfl w.heap.size 0 rfl a.cs _ (HKX.out _ HBc.out).range Tryd.underlying25 rfl size25 ?_)
    | ((with_reducible show wpList _ _ _ (Oper.mk (some 34) (Op.load 25 _) _ _ _ _ :: _) _ _); refine wpList_load_arr_g 25 _ rfl rfl w2.heap.size 0 rfl a.cs _ (HKB.out _ HBd.out).range Tryd.underlying25 rfl size25 ?_)
    | ((with_reducible show wpList _ _ _ (Oper.mk (some 40) (Op.load 25 _) _ _ _ _ :: _) _ _); refine wpList_load_arr_g 25 _ rfl rfl w.heap.size 0 rfl a.cs _ (HKX.out _ HBc.out).range Tryd.underlying25 rfl size25 ?_)
    | (go_at_call 5; refine (CRA.out _ HBc.out).mono ?_; rintro e w4 ⟨rfl, hb⟩; have HBc := Lib.hid (HBc.out.trans (hb.mono HBc.out.size)); have HBd := Lib.hid (HBd.out.trans (hb.mono HBd.out.size)); clear hb))
    have hz' := hz
    go_upto_region 8 with (first
    | (go_at_call 16; refine (CPS.out _ HBc.out).mono ?_; rintro e w7 ⟨he, hb⟩; have HBc7 := Lib.hid (HBc.out.trans (hb.mono HBc.out.size)); have HE := Lib.hid (HPN.out _ he); refine Hid.out ?_))
    refine Lib.hid ?_
    rcases HE.out with ⟨c, hc, hv⟩ | hv
    · injection hv with hv
      subst hv
      have HC := Lib.hid (HPF.out c hc)
      clear hc he hb HE
      go_upto_region 8 with (first
        | ((with_reducible show wpList _ _ _ (Oper.mk _ (Op.store 25 _ _) _ _ _ _ :: _) _ _); refine wpList_store_new rfl 25 _ _ rfl _ c.cs rfl rfl size25 rfl (cs_one _) ?_))
      have HB8 : Hid (Below wA.heap.size wA (w7.alloc (.cells c.cs 25))) := Lib.hid (HBc7.out.alloc HBc7.out.size _)
      have HK8 : Hid (Bk (w7.alloc (.cells c.cs 25)) w7.heap.size 25 c.cs) := Lib.hid (heap_alloc_new _ _)
      generalize w7.alloc (.cells c.cs 25) = w8 at HB8 HK8 ⊢
      go_wp2_with fail
      have HBG : Hid (∀ dd os, Below wA.heap.size wA (grow (redrawn w8 dd) os)) := Lib.hid (fun dd os => HB8.out.trans ((below_regrown w8 dd os).mono HB8.out.size))
      have cR : ∀ dd os, Calls Tryd.prog 5 #[.agg c.cs] (grow (redrawn w8 dd) os) fun en w'' => en = .returned (.bool true) ∧ ∃ p : Regrown, w'' = grow (redrawn w8 p.d) p.os :=
        fun dd os => Calls.regrown_of ((right_any c _ (HGX.out _ (HBG.out dd os))).mono fun e w' hh => ⟨by rw [hh.1, HC.out.2.2], hh.2⟩)
      have cT : ∀ dd os, Calls Tryd.prog 7 #[.agg c.cs] (grow (redrawn w8 dd) os) fun en w'' => en = .returned (.string t) ∧ ∃ p : Regrown, w'' = grow (redrawn w8 p.d) p.os :=
        fun dd os => Calls.regrown_of ((text_any c HC.out.1 _ (HGX.out _ (HBG.out dd os))).mono fun e w' hh => ⟨by rw [hh.1, HC.out.2.1, HTT.out], hh.2⟩)
      have cN1 : ∀ dd os, Calls Tryd.prog 13 #[.agg c.cs] (grow (redrawn w8 dd) os) fun en w'' => en = .returned (.agg (Ac.not c).cs) ∧ ∃ p : Regrown, w'' = grow (redrawn w8 p.d) p.os :=
        fun dd os => Calls.regrown_of (not_any c _)
      have cN2 : ∀ dd os, Calls Tryd.prog 13 #[.agg (Ac.not c).cs] (grow (redrawn w8 dd) os) fun en w'' => en = .returned (.agg c.cs) ∧ ∃ p : Regrown, w'' = grow (redrawn w8 p.d) p.os :=
        fun dd os => Calls.regrown_of ((not_any (Ac.not c) _).mono fun e w' hh => ⟨by rw [hh.1, not_not], hh.2⟩)
      have cL : ∀ dd os, Calls Tryd.prog 15 #[] (grow (redrawn w8 dd) os) fun en w'' => en = .returned (.bool true) ∧ ∃ p : Regrown, w'' = grow (redrawn w8 p.d) p.os :=
        fun dd os => Calls.regrown_of (CL.out _ (HUP.out _ (HBG.out dd os)))
      have HRX : Hid (∀ w', (∃ p : Regrown, w' = grow (redrawn w8 p.d) p.os) → w'.rangeAt w7.heap.size 0 c.cs.toList) := Lib.hid (fun w' hw' => by
        obtain ⟨p, rfl⟩ := hw'
        exact (HK8.out.below (below_regrown w8 p.d p.os) HK8.out.lt).range)
      refine wp_region_quiet_below (by kernel_rfl) (by kernel_rfl) ?_
      repeat (first
        | ((with_reducible show wpQuiet _ _ _ _ (Oper.mk _ (Op.load 25 _) _ _ _ _ :: _) _); refine wpQuiet_load rfl 25 _ rfl w7.heap.size 0 rfl c.cs _ HRX.out Tryd.underlying25 rfl size25 ?_; simp only [Act.put, List.setIfInBounds_toArray, List.set_cons_succ, List.set_cons_zero])
        | go_big_quiet_step (first | (with_reducible exact cR _ _) | (with_reducible exact cT _ _) | (with_reducible exact cN1 _ _) | (with_reducible exact cN2 _ _) | (with_reducible exact cL _ _)))
      refine wpQuiet_nil ?_
      intro _ hw'
      obtain ⟨⟨dq, osq⟩, hw''⟩ := hw'
      subst hw''
      have HB9 := Lib.hid (HBG.out dq osq)
      clear cR cT cN1 cN2 cL
      generalize grow (redrawn w8 dq) osq = w9 at HB9 ⊢
      go_wp2_with fail
      go_ret
      exact ⟨rfl, HUP.out _ HB9.out⟩
    · injection hv with hv
      subst hv
      clear he hb HE
      go_upto_region 8 with (first
        | ((with_reducible show wpList _ _ _ (Oper.mk _ (Op.store 25 _ _) _ _ _ _ :: _) _ _); refine wpList_store_new rfl 25 _ _ rfl _ Acn.zero.cs rfl rfl size25 rfl (cs_one _) ?_))
      have HB8 : Hid (Below wA.heap.size wA (w7.alloc (.cells Acn.zero.cs 25))) := Lib.hid (HBc7.out.alloc HBc7.out.size _)
      have HK8 : Hid (Bk (w7.alloc (.cells Acn.zero.cs 25)) w7.heap.size 25 Acn.zero.cs) := Lib.hid (heap_alloc_new _ _)
      generalize w7.alloc (.cells Acn.zero.cs 25) = w8 at HB8 HK8 ⊢
      go_wp2_with (first
        | ((with_reducible show wpList _ _ _ (Oper.mk (some 55) (Op.load 25 _) _ _ _ _ :: _) _ _); refine wpList_load_bk rfl 25 _ rfl w7.heap.size 25 Acn.zero.cs rfl _ HK8.out Tryd.underlying25 rfl size25 ?_)
        | (go_at_call 15; refine (CL.out _ (HUP.out _ HB8.out)).mono ?_; rintro e w9 ⟨rfl, hb⟩; have HB9 := Lib.hid (HB8.out.trans (hb.mono HB8.out.size)); clear hb))
      go_ret
      exact ⟨rfl, HUP.out _ HB9.out⟩
  · rw [decide_eq_true hne] at hte
    clear hne
    go_enter Tryd.func4, Tryd.ntmps4
    go_upto_region 1 with fail
    rw [← hwA]
    clear hwA
    go_upto_region 5 with (first
    | ((with_reducible show wpList _ _ _ (Oper.mk (some 14) (Op.load 25 _) _ _ _ _ :: _) _ _); refine wpList_load_bk rfl 25 _ rfl w.heap.size 25 a.cs rfl _ (HKX.out _ HBc.out) Tryd.underlying25 rfl size25 ?_)
    | (go_at_call 7; refine CTA.out.mono ?_; rintro e w1 ⟨rfl, hb⟩; have HBc := Lib.hid hb; clear hb)
    | (go_at_call 16; refine (CPA.out _ HBc.out).mono ?_; rintro e w2 ⟨rfl, hb⟩; have HBc2 := Lib.hid (HBc.out.trans (hb.mono HBc.out.size)); clear hb)
    | ((with_reducible show wpList _ _ _ (Oper.mk _ (Op.store 25 _ _) _ _ _ _ :: _) _ _); refine wpList_store_new rfl 25 _ _ rfl _ b0.cs rfl rfl size25 rfl (cs_one _) ?_))
    have HBc : Hid (Below wA.heap.size wA (w2.alloc (.cells b0.cs 25))) := Lib.hid (HBc2.out.alloc HBc2.out.size _)
    have HK3 : Hid (Bk (w2.alloc (.cells b0.cs 25)) w2.heap.size 25 b0.cs) := Lib.hid (heap_alloc_new _ _)
    generalize w2.alloc (.cells b0.cs 25) = w3 at HBc HK3 ⊢
    have HKB : Hid (∀ w', Below w3.heap.size w3 w' → Bk w' w2.heap.size 25 b0.cs) := Lib.hid (fun w' hb => HK3.out.below hb HK3.out.lt)
    have HBd : Hid (Below w3.heap.size w3 w3) := Lib.hid (Below.refl _ _)
    go_upto_region 7 with (first
    | ((with_reducible show wpList _ _ _ (Oper.mk (some 21) (Op.load 25 _) _ _ _ _ :: _) _ _); refine wpList_load_bk rfl 25 _ rfl w.heap.size 25 a.cs rfl _ (HKX.out _ HBc.out) Tryd.underlying25 rfl size25 ?_)
    | ((with_reducible show wpList _ _ _ (Oper.mk (some 27) (Op.load 25 _) _ _ _ _ :: _) _ _); refine wpList_load_arr_g 25 _ rfl rfl w.heap.size 0 rfl a.cs _ (HKX.out _ HBc.out).range Tryd.underlying25 rfl size25 ?_)
    | ((with_reducible show wpList _ _ _ (Oper.mk (some 33) (Op.load 25 _) _ _ _ _ :: _) _ _); refine wpList_load_arr_g 25 _ rfl rfl w.heap.size 0 rfl a.cs _ (HKX.out _ HBc.out).range Tryd.underlying25 rfl size25 ?_)
    | ((with_reducible show wpList _ _ _ (Oper.mk (some 34) (Op.load 25 _) _ _ _ _ :: _) _ _); refine wpList_load_arr_g 25 _ rfl rfl w2.heap.size 0 rfl b0.cs _ (HKB.out _ HBd.out).range Tryd.underlying25 rfl size25 ?_)
    | ((with_reducible show wpList _ _ _ (Oper.mk (some 40) (Op.load 25 _) _ _ _ _ :: _) _ _); refine wpList_load_arr_g 25 _ rfl rfl w.heap.size 0 rfl a.cs _ (HKX.out _ HBc.out).range Tryd.underlying25 rfl size25 ?_)
    | (go_at_call 5; refine (CRA.out _ HBc.out).mono ?_; rintro e w4 ⟨rfl, hb⟩; have HBc := Lib.hid (HBc.out.trans (hb.mono HBc.out.size)); have HBd := Lib.hid (HBd.out.trans (hb.mono HBd.out.size)); clear hb))
    have hz' := hz
    go_upto_region 8 with (first
    | (go_at_call 16; refine (CPS.out _ HBc.out).mono ?_; rintro e w7 ⟨he, hb⟩; have HBc7 := Lib.hid (HBc.out.trans (hb.mono HBc.out.size)); have HE := Lib.hid (HPN.out _ he); refine Hid.out ?_))
    refine Lib.hid ?_
    rcases HE.out with ⟨c, hc, hv⟩ | hv
    · injection hv with hv
      subst hv
      have HC := Lib.hid (HPF.out c hc)
      clear hc he hb HE
      go_upto_region 8 with (first
        | ((with_reducible show wpList _ _ _ (Oper.mk _ (Op.store 25 _ _) _ _ _ _ :: _) _ _); refine wpList_store_new rfl 25 _ _ rfl _ c.cs rfl rfl size25 rfl (cs_one _) ?_))
      have HB8 : Hid (Below wA.heap.size wA (w7.alloc (.cells c.cs 25))) := Lib.hid (HBc7.out.alloc HBc7.out.size _)
      have HK8 : Hid (Bk (w7.alloc (.cells c.cs 25)) w7.heap.size 25 c.cs) := Lib.hid (heap_alloc_new _ _)
      generalize w7.alloc (.cells c.cs 25) = w8 at HB8 HK8 ⊢
      go_wp2_with fail
      have HBG : Hid (∀ dd os, Below wA.heap.size wA (grow (redrawn w8 dd) os)) := Lib.hid (fun dd os => HB8.out.trans ((below_regrown w8 dd os).mono HB8.out.size))
      have cR : ∀ dd os, Calls Tryd.prog 5 #[.agg c.cs] (grow (redrawn w8 dd) os) fun en w'' => en = .returned (.bool true) ∧ ∃ p : Regrown, w'' = grow (redrawn w8 p.d) p.os :=
        fun dd os => Calls.regrown_of ((right_any c _ (HGX.out _ (HBG.out dd os))).mono fun e w' hh => ⟨by rw [hh.1, HC.out.2.2], hh.2⟩)
      have cT : ∀ dd os, Calls Tryd.prog 7 #[.agg c.cs] (grow (redrawn w8 dd) os) fun en w'' => en = .returned (.string t) ∧ ∃ p : Regrown, w'' = grow (redrawn w8 p.d) p.os :=
        fun dd os => Calls.regrown_of ((text_any c HC.out.1 _ (HGX.out _ (HBG.out dd os))).mono fun e w' hh => ⟨by rw [hh.1, HC.out.2.1, HTT.out], hh.2⟩)
      have cN1 : ∀ dd os, Calls Tryd.prog 13 #[.agg c.cs] (grow (redrawn w8 dd) os) fun en w'' => en = .returned (.agg (Ac.not c).cs) ∧ ∃ p : Regrown, w'' = grow (redrawn w8 p.d) p.os :=
        fun dd os => Calls.regrown_of (not_any c _)
      have cN2 : ∀ dd os, Calls Tryd.prog 13 #[.agg (Ac.not c).cs] (grow (redrawn w8 dd) os) fun en w'' => en = .returned (.agg c.cs) ∧ ∃ p : Regrown, w'' = grow (redrawn w8 p.d) p.os :=
        fun dd os => Calls.regrown_of ((not_any (Ac.not c) _).mono fun e w' hh => ⟨by rw [hh.1, not_not], hh.2⟩)
      have cL : ∀ dd os, Calls Tryd.prog 15 #[] (grow (redrawn w8 dd) os) fun en w'' => en = .returned (.bool true) ∧ ∃ p : Regrown, w'' = grow (redrawn w8 p.d) p.os :=
        fun dd os => Calls.regrown_of (CL.out _ (HUP.out _ (HBG.out dd os)))
      have HRX : Hid (∀ w', (∃ p : Regrown, w' = grow (redrawn w8 p.d) p.os) → w'.rangeAt w7.heap.size 0 c.cs.toList) := Lib.hid (fun w' hw' => by
        obtain ⟨p, rfl⟩ := hw'
        exact (HK8.out.below (below_regrown w8 p.d p.os) HK8.out.lt).range)
      refine wp_region_quiet_below (by kernel_rfl) (by kernel_rfl) ?_
      repeat (first
        | ((with_reducible show wpQuiet _ _ _ _ (Oper.mk _ (Op.load 25 _) _ _ _ _ :: _) _); refine wpQuiet_load rfl 25 _ rfl w7.heap.size 0 rfl c.cs _ HRX.out Tryd.underlying25 rfl size25 ?_; simp only [Act.put, List.setIfInBounds_toArray, List.set_cons_succ, List.set_cons_zero])
        | go_big_quiet_step (first | (with_reducible exact cR _ _) | (with_reducible exact cT _ _) | (with_reducible exact cN1 _ _) | (with_reducible exact cN2 _ _) | (with_reducible exact cL _ _)))
      refine wpQuiet_nil ?_
      intro _ hw'
      obtain ⟨⟨dq, osq⟩, hw''⟩ := hw'
      subst hw''
      have HB9 := Lib.hid (HBG.out dq osq)
      clear cR cT cN1 cN2 cL
      generalize grow (redrawn w8 dq) osq = w9 at HB9 ⊢
      go_wp2_with fail
      go_ret
      exact ⟨rfl, HUP.out _ HB9.out⟩
    · injection hv with hv
      subst hv
      clear he hb HE
      go_upto_region 8 with (first
        | ((with_reducible show wpList _ _ _ (Oper.mk _ (Op.store 25 _ _) _ _ _ _ :: _) _ _); refine wpList_store_new rfl 25 _ _ rfl _ Acn.zero.cs rfl rfl size25 rfl (cs_one _) ?_))
      have HB8 : Hid (Below wA.heap.size wA (w7.alloc (.cells Acn.zero.cs 25))) := Lib.hid (HBc7.out.alloc HBc7.out.size _)
      have HK8 : Hid (Bk (w7.alloc (.cells Acn.zero.cs 25)) w7.heap.size 25 Acn.zero.cs) := Lib.hid (heap_alloc_new _ _)
      generalize w7.alloc (.cells Acn.zero.cs 25) = w8 at HB8 HK8 ⊢
      go_wp2_with (first
        | ((with_reducible show wpList _ _ _ (Oper.mk (some 55) (Op.load 25 _) _ _ _ _ :: _) _ _); refine wpList_load_bk rfl 25 _ rfl w7.heap.size 25 Acn.zero.cs rfl _ HK8.out Tryd.underlying25 rfl size25 ?_)
        | (go_at_call 15; refine (CL.out _ (HUP.out _ HB8.out)).mono ?_; rintro e w9 ⟨rfl, hb⟩; have HB9 := Lib.hid (HB8.out.trans (hb.mono HB8.out.size)); clear hb))
      go_ret
      exact ⟨rfl, HUP.out _ HB9.out⟩
end Go.Proofs.YtkieiclionkllaaDoor
