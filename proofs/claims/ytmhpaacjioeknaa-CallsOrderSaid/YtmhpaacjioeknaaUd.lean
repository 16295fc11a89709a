/-
  DERIVED. The law of the order.
-/
import Derived.Test.YtmhpaacjioeknaaUc
import Derived.Test.YtmhpaacjioeknaaTn
import Derived.Test.YtmhpaacjioeknaaTq
namespace Go.Proofs.Ytmhpaacjioeknaa
open Go.RowKit Go.Maps Go.Sort Go.WideMaps
open Tj (RchPost)

abbrev pagg (x : Pg) : Value := .agg #[.slice x.structs.p x.structs.l.length x.structs.cap, .slice x.globals.p x.globals.l.length x.globals.cap, .slice x.procs.p x.procs.l.length x.procs.cap]
abbrev pbox (x : Pg) : Array Value := #[.slice x.structs.p x.structs.l.length x.structs.cap, .slice x.globals.p x.globals.l.length x.globals.cap, .slice x.procs.p x.procs.l.length x.procs.cap]
/-- What the order and the search for rounds say, together. -/
theorem cost_none {l : List Pc} {v : Int} (h : CostIs l v) (hc : ∃ i, i < l.length ∧ Rt (web l) i i) : v = 0 := by
  unfold CostIs at h
  split at h
  · obtain ⟨os, h1, h2, h3⟩ := h
    have hl : os.length < l.length := by
      have h4 := told_len h1
      rw [web_len] at h4
      apply Classical.byContradiction
      intro hn
      obtain ⟨i, hi, hr⟩ := hc
      exact told_all h1 (by rw [web_len]; omega) i (by rw [web_len]; exact hi) hr
    rw [if_pos hl] at h3
    rw [h3]
    show fn (List.replicate l.length 0) _ = 0
    unfold fn
    rw [List.getD_eq_getElem?_getD, List.getElem?_replicate]
    split <;> rfl
  · exact h
theorem order_none {l : List Pc} {w w' : World} {v : Value} (h : OrdPost (web l) w w' v) (hc : ∃ i, i < l.length ∧ Rt (web l) i i) : v = .slice none 0 0 ∧ Below w.heap.size w w' := by
  obtain ⟨os, h1, h2, h3, h4⟩ := h
  rcases h4 with ⟨_, rfl⟩ | ⟨h4, _⟩
  · exact ⟨rfl, h3⟩
  · exfalso
    obtain ⟨i, hi, hr⟩ := hc
    exact told_all h1 h4 i (by rw [web_len]; exact hi) hr
theorem order_full {l : List Pc} (hP : PsOk l) {w w' : World} {v : Value} (h : OrdPost (web l) w w' v) (hc : ∀ i, i < l.length → ¬ Rt (web l) i i) : ∃ os : List Int, Told (web l) os ∧ os.length = l.length ∧ OR w' w.heap.size v os ∧ Below w.heap.size w w' := by
  obtain ⟨os, h1, h2, h3, h4⟩ := h
  have h5 := told_whole (web_inR hP) h1 h2 (by rw [web_len]; exact hc)
  rcases h4 with ⟨h4, _⟩ | ⟨_, h4⟩
  · omega
  · exact ⟨os, h1, by rw [h5, web_len], h4, h3⟩
set_option maxHeartbeats 6400000 in
set_option maxRecDepth 100000 in
theorem order_law (s : ByteArray) (w : World) (hs : s.size ≤ maxLen) : Calls Try.prog 4 #[.string s] w fun e w' => e = .returned (.bool true) ∧ Below w.heap.size w w' := by
  have HS := Lib.hid hs
  unfold maxLen at hs
  by_cases hbig : 6000 < s.size
  · have hbig' : (6000 : Int) < (s.size : Int) := by omega
    go_enter Try.func4, Try.ntmps4
    go_wp2_with (go_at_call 6; refine (lives_any _).mono ?_; rintro en w3 ⟨rfl, hb⟩; have HB3 := Lib.hid hb; clear hb)
    go_ret
    exact ⟨rfl, HB3.out⟩
  · have hsm' : ¬ (6000 : Int) < (s.size : Int) := by omega
    have HPR := Lib.hid (prog_any s w (by omega))
    clear hbig
    go_enter Try.func4, Try.ntmps4
    go_upto_region 4 with (first | (go_at_call 9; refine (HPR.out).mono ?_; rintro en w2 ⟨x, a0, er, rfl, hb, hx⟩; have HB2 := Lib.hid hb; have HXX := hx; clear hb))
    have HKA := Lib.hid (prog_box w2 (.slice x.structs.p x.structs.l.length x.structs.cap) (.slice x.globals.p x.globals.l.length x.globals.cap) (.slice x.procs.p x.procs.l.length x.procs.cap))
    have HBA : Hid (Below w2.heap.size w2 (w2.alloc (.cells (pbox x) 26))) := Lib.hid ((Below.refl _ _).alloc (Nat.le_refl _) _)
    change Hid (Below w2.heap.size w2 (w2.alloc (.cells #[.slice x.structs.p x.structs.l.length x.structs.cap, .slice x.globals.p x.globals.l.length x.globals.cap, .slice x.procs.p x.procs.l.length x.procs.cap] 26))) at HBA
    obtain ⟨pb, hpb⟩ : ∃ pb, pb = w2.heap.size := ⟨_, rfl⟩
    have HPB := Lib.hid hpb
    rw [← hpb] at HKA ⊢
    clear hpb hx
    generalize w2.alloc (.cells #[.slice x.structs.p x.structs.l.length x.structs.cap, .slice x.globals.p x.globals.l.length x.globals.cap, .slice x.procs.p x.procs.l.length x.procs.cap] 26) = w3 at HKA HBA ⊢
    have HB3 : Hid (Below w.heap.size w w3) := Lib.hid (HB2.out.trans (HBA.out.mono HB2.out.size))
    by_cases he : er = 0
    case neg =>
      have he' : (er != 0) = true := by rw [bne_iff_ne]; exact he
      clear he
      go_wp2_with (go_at_call 6; refine (lives_any _).mono ?_; rintro en w4 ⟨rfl, hb⟩; have HB4 := Lib.hid hb; clear hb)
      go_ret
      exact ⟨rfl, HB3.out.trans (HB4.out.mono HB3.out.size)⟩
    subst he
    obtain ⟨hpl, hbd, hnm⟩ := HXX.out rfl
    have HPL := Lib.hid (pgLies_below hpl HBA.out)
    have HNM := Lib.hid hnm
    have HFE := Lib.hid (few_any x w3 HPL.out hbd)
    clear hpl hbd hnm
    have b0 : w3.cell? ⟨pb, 0, none⟩ = some (.slice x.structs.p x.structs.l.length x.structs.cap) := HKA.out.cell 0
    have b1 : w3.cell? ⟨pb, 1, none⟩ = some (.slice x.globals.p x.globals.l.length x.globals.cap) := HKA.out.cell 1
    have b2 : w3.cell? ⟨pb, 2, none⟩ = some (.slice x.procs.p x.procs.l.length x.procs.cap) := HKA.out.cell 2
    go_wp2_with fail
    refine (HFE.out).mono ?_
    rintro en w4 ⟨b, rfl, hb, hs⟩
    have HB4 := Lib.hid hb
    have HSM := Lib.hid hs
    have HK4 := Lib.hid (HKA.out.below hb HKA.out.lt)
    have HP4 := Lib.hid (pgLies_below HPL.out hb).2.2
    clear b0 b1 b2 hb hs HFE HPR
    have HBW : Hid (Below w.heap.size w w4) := Lib.hid (HB3.out.trans (HB4.out.mono HB3.out.size))
    rcases b with _ | _
    · go_wp2_with (go_at_call 6; refine (lives_any _).mono ?_; rintro en w5 ⟨rfl, hb⟩; have HB5 := Lib.hid hb; clear hb)
      go_ret
      exact ⟨rfl, HBW.out.trans (HB5.out.mono HBW.out.size)⟩
    have HPS : Hid (PsOk x.procs.l) := Lib.hid (opn.psok_of (HSM.out rfl) HNM.out)
    clear HSM HNM HPL HKA HBA HB4 HB2 HXX
    have b0 : w4.cell? ⟨pb, 0, none⟩ = some (.slice x.structs.p x.structs.l.length x.structs.cap) := HK4.out.cell 0
    have b1 : w4.cell? ⟨pb, 1, none⟩ = some (.slice x.globals.p x.globals.l.length x.globals.cap) := HK4.out.cell 1
    have b2 : w4.cell? ⟨pb, 2, none⟩ = some (.slice x.procs.p x.procs.l.length x.procs.cap) := HK4.out.cell 2
    go_wp2_with fail
    refine (porder_any _ _ x.procs w4 HP4.out HPS.out).mono ?_
    rintro en w5 ⟨v, rfl, hv⟩
    have HV := Lib.hid hv
    have HB5 : Hid (Below w4.heap.size w4 w5) := Lib.hid (by obtain ⟨_, _, _, h9, _⟩ := hv; exact h9)
    have HK5 := Lib.hid (HK4.out.below HB5.out HK4.out.lt)
    have HP5 := Lib.hid (pcsLie_below HP4.out HB5.out)
    clear b0 b1 b2 hv
    have b0 : w5.cell? ⟨pb, 0, none⟩ = some (.slice x.structs.p x.structs.l.length x.structs.cap) := HK5.out.cell 0
    have b1 : w5.cell? ⟨pb, 1, none⟩ = some (.slice x.globals.p x.globals.l.length x.globals.cap) := HK5.out.cell 1
    have b2 : w5.cell? ⟨pb, 2, none⟩ = some (.slice x.procs.p x.procs.l.length x.procs.cap) := HK5.out.cell 2
    go_wp2_with fail
    refine (Tj.cycle_any _ _ x.procs w5 HP5.out HPS.out).mono ?_
    rintro en w6 ⟨a6, e6, rfl, hc, hb⟩
    have HB6 := Lib.hid hb
    have HK6 := Lib.hid (HK5.out.below hb HK5.out.lt)
    have HP6 := Lib.hid (pcsLie_below HP5.out hb)
    have HBX : Hid (Below w.heap.size w w6) := Lib.hid (HBW.out.trans ((HB5.out.trans (HB6.out.mono HB5.out.size)).mono HBW.out.size))
    clear b0 b1 b2 hb
    have b0 : w6.cell? ⟨pb, 0, none⟩ = some (.slice x.structs.p x.structs.l.length x.structs.cap) := HK6.out.cell 0
    have b1 : w6.cell? ⟨pb, 1, none⟩ = some (.slice x.globals.p x.globals.l.length x.globals.cap) := HK6.out.cell 1
    have b2 : w6.cell? ⟨pb, 2, none⟩ = some (.slice x.procs.p x.procs.l.length x.procs.cap) := HK6.out.cell 2
    rcases hc with ⟨rfl, -, hno⟩ | ⟨rfl, i, y, hy, hr, -, -⟩
    case inr =>
      have hex : ∃ i, i < x.procs.l.length ∧ Rt (web x.procs.l) i i := ⟨i, (List.getElem?_eq_some_iff.1 hy).1, hr⟩
      obtain ⟨rfl, -⟩ := order_none HV.out hex
      have HC : Hid (∀ z, CostIs x.procs.l z → z = 0) := Lib.hid fun z hz => cost_none hz hex
      clear hy hr hex HV
      go_wp2_with fail
      refine (pcost_any _ _ x.procs w6 HP6.out HPS.out).mono ?_
      rintro en w7 ⟨z, rfl, hz, hb⟩
      obtain rfl := HC.out z hz
      have HB7 := Lib.hid hb
      clear hb hz
      go_wp2_with (go_at_call 6; refine (lives_any _).mono ?_; rintro en w8 ⟨rfl, hb⟩; have HB8 := Lib.hid hb; clear hb)
      go_ret
      exact ⟨rfl, HBX.out.trans ((HB7.out.trans (HB8.out.mono HB7.out.size)).mono HBX.out.size)⟩
    obtain ⟨os, ht, hol, hor, -⟩ := order_full HPS.out HV.out hno
    have HT := Lib.hid ht
    have HND := Lib.hid (told_at ht).1
    have HOR6 : Hid (OR w6 w4.heap.size v os) := Lib.hid (own_below hor HB6.out)
    have HMEM : Hid (∀ i, i < x.procs.l.length → (i : Int) ∈ os) := Lib.hid fun i hi => told_mem ht (by rw [hol, web_len]) (by rw [web_len]; exact hi)
    have HIN : Hid (∀ (k : Nat), k < os.length → ∃ c : Nat, os[k]? = some (c : Int) ∧ c < x.procs.l.length) := Lib.hid fun k hk => by
      obtain ⟨c, h1, h2, -⟩ := (told_at ht).2 os[k] (List.getElem_mem hk)
      exact ⟨c, by rw [List.getElem?_eq_getElem hk, h1], by rw [web_len] at h2; exact h2⟩
    have HOL := Lib.hid hol
    obtain ⟨av, cv, rfl⟩ := HOR6.out.shape
    clear ht hor hno HV
    rw [hol] at HOR6 ⊢
    clear hol
    obtain ⟨ir, hir, hz0, hz1, hz2⟩ := info_parts info3
    have HIR := Lib.hid (And.intro hir (And.intro hz0 (And.intro hz1 hz2)))
    clear hir hz0 hz1 hz2
    have HN := Lib.hid HPS.out.len
    have hn' : (x.procs.l.length : Int) ≤ 1000 := by have := HN.out; omega
    go_wp2_with (at_make; refine wpList_make_row _ rfl _ _ 33 rfl 3 ir (.int .i64 0) Try.underlying33 HIR.out.1 HIR.out.2.1 HIR.out.2.2.1 rfl .i64 .i64 x.procs.l.length rfl rfl (by rw [HIR.out.2.2.2]; have := HN.out; omega) (by have := HN.out; omega) ?_)
    have HM0 := Lib.hid (made_or w6 x.procs.l.length w6.heap.size (Nat.le_refl _) HN.out)
    have HBM : Hid (Below w6.heap.size w6 (w6.alloc (.cells (madeCells #[.int .i64 0] x.procs.l.length) 3))) := Lib.hid ((Below.refl _ _).alloc (Nat.le_refl _) _)
    clear b0 b1 b2 HIR ir HPB
    obtain ⟨gb, hgb⟩ : ∃ gb, gb = w6.heap.size := ⟨_, rfl⟩
    have HGB := Lib.hid hgb
    rw [← hgb] at HM0 HBM ⊢
    clear hgb
    generalize w6.alloc (.cells (madeCells #[.int .i64 0] x.procs.l.length) 3) = wM at HM0 HBM ⊢
    go_loopw [10] (fun sj wr => ∃ (k : Nat) (ys : List Int), sj = .int .i64 k ∧ k ≤ x.procs.l.length ∧ Hid (Below gb w6 wr) ∧ Hid (OR wr gb (.slice (some ⟨gb, 0, none⟩) x.procs.l.length x.procs.l.length) ys) ∧ Hid (AtI os x.procs.l.length k ys)) (fun sj _ => x.procs.l.length - (Lib.intOf sj).toNat)
    case atStart => exact ⟨0, _, rfl, Nat.zero_le _, HBM, HM0, Lib.hid (AtI.start os _)⟩
    case round =>
      clear HM0 HBM
      obtain ⟨k, ys, rfl, hk, HBR, HYR, HAT⟩ := hrel
      have HOW : Hid (OR wr w4.heap.size (.slice av x.procs.l.length cv) os) := Lib.hid (own_below HOR6.out (by rw [← HGB.out]; exact HBR.out))
      by_cases hkn : k < x.procs.l.length
      · obtain ⟨c, hc, hcn⟩ := HIN.out k (by rw [HOL.out]; exact hkn)
        have HC := Lib.hid hc
        have HCN := Lib.hid hcn
        have hyl : ys.length = x.procs.l.length := HAT.out.1
        obtain ⟨og, oc, ho, -, -⟩ := HOW.out.block (by rw [HOL.out]; omega)
        injection ho with e1 e2 e3
        subst e1
        have co : wr.cell? ⟨og, k, none⟩ = some (.int .i64 (c : Int)) := by
          have h1 := HOW.out
          rw [← HOL.out] at h1
          have h2 := OR.cell h1 k (by rw [HOL.out]; exact hkn)
          rw [h2, fn_get os k (by rw [HOL.out]; exact hkn)]
          rw [List.getElem?_eq_getElem (by rw [HOL.out]; exact hkn)] at hc
          injection hc with hc
          rw [hc]
        have cy : wr.cell? ⟨gb, c, none⟩ = some (.int .i64 0) := by
          have h1 := HYR.out
          rw [← hyl] at h1
          rw [OR.cell h1 c (by rw [hyl]; exact hcn), HAT.out.at_ HND.out hc hcn]
        have fy : wr.frozen? ⟨gb, c, none⟩ = false := by
          have h1 := HYR.out
          rw [← hyl] at h1
          exact OR.froz h1 c
        have HY2 : Hid (OR (wr.setCell ⟨gb, c, none⟩ (.int .i64 ((k : Int) + 1))) gb (.slice (some ⟨gb, 0, none⟩) x.procs.l.length x.procs.l.length) (ys.set c ((k : Int) + 1))) := Lib.hid (by
          have h1 := HYR.out
          rw [← hyl] at h1 ⊢
          exact OR.put h1 c ((k : Int) + 1))
        have HA2 := Lib.hid (HAT.out.step HND.out hc hcn)
        have HB2 : Hid (Below gb w6 (wr.setCell ⟨gb, c, none⟩ (.int .i64 ((k : Int) + 1)))) := Lib.hid (HBR.out.setCell (p := ⟨gb, c, none⟩) (Nat.le_refl _) _)
        have hkn' : (k : Int) < (x.procs.l.length : Int) := by omega
        have hcn' : (c : Int) < (x.procs.l.length : Int) := by omega
        clear hc hyl e2 e3
        go_wp2_with fail
        go_roundw
        case rel => exact ⟨k + 1, _, by go_num, by omega, HB2, HY2, HA2⟩
        case measure => simp [Lib.intOf]; omega
      · have hke : k = x.procs.l.length := by omega
        subst hke
        go_wp2_with fail
        obtain ⟨wL, rfl⟩ : ∃ wL, wL = wr := ⟨_, rfl⟩
        have HBL : Hid (Below w6.heap.size w6 wL) := Lib.hid (by rw [← HGB.out]; exact HBR.out)
        have HKL := Lib.hid (HK6.out.below HBL.out HK6.out.lt)
        have HPL := Lib.hid (pcsLie_below HP6.out HBL.out)
        have HXL : Hid (Below w.heap.size w wL) := Lib.hid (HBX.out.trans (HBL.out.mono HBX.out.size))
        have HLT : Hid (∀ i c, i < x.procs.l.length → c < x.procs.l.length → Rt (web x.procs.l) i c → fn ys c < fn ys i) := Lib.hid fun i c hi hc hr => by
          have h0 : AtI os x.procs.l.length os.length ys := by rw [HOL.out]; exact HAT.out
          have h1 := rt_ahead HT.out (HMEM.out i hi) hr
          rw [h0.end_ hc h1.1, h0.end_ hi (HMEM.out i hi)]
          omega
        have HYLEN : Hid (ys.length = x.procs.l.length) := Lib.hid HAT.out.1
        clear HBR HAT HOW HOR6 HIN HMEM HBX HK6 HP6 HB6 HB5 HP5 HK5 HBW HK4 HP4 HB3
        have HYL := HYR
        go_loopw [11] (fun si wq => ∃ i : Nat, si = .int .i64 i ∧ i ≤ x.procs.l.length ∧ Hid (Below wL.heap.size wL wq)) (fun si _ => x.procs.l.length - (Lib.intOf si).toNat)
        case atStart => exact ⟨0, rfl, Nat.zero_le _, Lib.hid (Below.refl _ _)⟩
        case round =>
          obtain ⟨i, rfl, hi, HBQ⟩ := hrel
          obtain ⟨wq, rfl⟩ : ∃ wq, wq = wr := ⟨_, rfl⟩
          have HKQ := Lib.hid (HKL.out.below HBQ.out HKL.out.lt)
          have HPQ := Lib.hid (pcsLie_below HPL.out HBQ.out)
          have b0 : wq.cell? ⟨pb, 0, none⟩ = some (.slice x.structs.p x.structs.l.length x.structs.cap) := HKQ.out.cell 0
          have b1 : wq.cell? ⟨pb, 1, none⟩ = some (.slice x.globals.p x.globals.l.length x.globals.cap) := HKQ.out.cell 1
          by_cases hin : i < x.procs.l.length
          · obtain ⟨y, hy⟩ : ∃ y, x.procs.l[i]? = some y := ⟨_, List.getElem?_eq_getElem hin⟩
            obtain ⟨qb, qo, hqp, hqr, -⟩ := pc_at HPQ.out hy
            have HQP := Lib.hid hqp
            have b2 : wq.cell? ⟨pb, 2, none⟩ = some (.slice (some ⟨qb, qo, none⟩) x.procs.l.length x.procs.cap) := by rw [← hqp]; exact HKQ.out.cell 2
            have cn : wq.cell? ⟨qb, qo + i * 6, none⟩ = some (.string y.name) := cell_at hqr 0 _ rfl
            have HY := Lib.hid hy
            have HNL : Hid (y.name.size ≤ maxLen) := Lib.hid (HPS.out.names y (List.mem_of_getElem? hy))
            have hin' : (i : Int) < (x.procs.l.length : Int) := by omega
            have HIN := Lib.hid hin
            clear hqp hqr hy
            go_wp2_with fail
            go_still_tail 7, (by kernel_rfl)
            change wpList _ _ _ _ _ wq.drew
            go_wp2_with fail
            rw [← HQP.out]
            refine (Tj.reachN_any _ _ x.procs y.name HNL.out wq.drew (pcsLie_below HPQ.out (below_drew (Below.refl _ _))) HPS.out).mono ?_
            rintro en w8 ⟨rv, fs, rfl, hor, hrp, hb⟩
            obtain ⟨ar, cr, rfl⟩ := hor.shape
            have HB8 : Hid (Below wL.heap.size wL w8) := Lib.hid (HBQ.out.trans (((below_drew (Below.refl _ _)).trans hb).mono HBQ.out.size))
            have HOR := Lib.hid hor
            have HRP := Lib.hid hrp
            have HFC : Hid (∀ k, k < fs.length → ∃ c : Nat, fs[k]? = some (c : Int) ∧ c < x.procs.l.length ∧ Rt (web x.procs.l) (plc (nms x.procs.l) y.name) c) := Lib.hid fun k hk => by
              rcases HRP.out with ⟨-, h0⟩ | ⟨-, -, -, -, h3, h4⟩
              · rw [h0] at hk; exact absurd hk (Nat.not_lt_zero _)
              · obtain ⟨c, h5, h6⟩ := h4 fs[k] (List.getElem_mem hk)
                exact ⟨c, by rw [List.getElem?_eq_getElem hk, h5], h6, (h3 c).1 (by rw [← h5]; exact List.getElem_mem hk)⟩
            have HFL : Hid (fs.length ≤ 1000) := Lib.hid (by
              rcases HRP.out with ⟨-, h0⟩ | ⟨-, -, -, h2, -, h4⟩
              · rw [h0]; exact Nat.zero_le _
              · exact Nat.le_trans (nodup_len h2 h4) HN.out)
            clear hb hor hrp b0 b1 b2 cn HRP
            have hfl' : (fs.length : Int) ≤ 1000 := by have := HFL.out; omega
            have HOW8 : Hid (OR w8 w8.heap.size (.slice ar fs.length cr) fs → True) := Lib.hid fun _ => trivial
            clear HOW8
            go_wp2_with fail
            go_loopw [13] (fun sk wz => ∃ k : Nat, sk = .int .i64 k ∧ k ≤ fs.length ∧ Hid (Below w8.heap.size w8 wz)) (fun sk _ => fs.length - (Lib.intOf sk).toNat)
            case atStart => exact ⟨0, rfl, Nat.zero_le _, Lib.hid (Below.refl _ _)⟩
            case round =>
              obtain ⟨k, rfl, hk, HBZ⟩ := hrel
              obtain ⟨wz, rfl⟩ : ∃ wz, wz = wr := ⟨_, rfl⟩
              by_cases hkf : k < fs.length
              · obtain ⟨c, hc, hcn, hrt⟩ := HFC.out k hkf
                have HRT := Lib.hid hrt
                have HLZ : Hid (Below wL.heap.size wL wz) := Lib.hid (HB8.out.trans (HBZ.out.mono HB8.out.size))
                have HKZ := Lib.hid (HKL.out.below HLZ.out HKL.out.lt)
                have HPZ := Lib.hid (pcsLie_below HPL.out HLZ.out)
                have hoz := own_below HOR.out HBZ.out
                obtain ⟨rg, rc, hrg, -, -⟩ := OR.block hoz (by omega)
                injection hrg with e1 e2 e3
                subst e1
                have cr1 : wz.cell? ⟨rg, k, none⟩ = some (.int .i64 (c : Int)) := by
                  rw [OR.cell hoz k hkf, fn_get fs k hkf]
                  rw [List.getElem?_eq_getElem hkf] at hc
                  injection hc with hc
                  rw [hc]
                have hyz : OR wz gb (.slice (some ⟨gb, 0, none⟩) ys.length x.procs.l.length) ys := by
                  have h1 := own_below HYL.out HLZ.out
                  rw [← HYLEN.out] at h1 ⊢
                  exact h1
                have cyc : wz.cell? ⟨gb, c, none⟩ = some (.int .i64 (fn ys c)) := OR.cell hyz c (by rw [HYLEN.out]; exact hcn)
                have cyi : wz.cell? ⟨gb, i, none⟩ = some (.int .i64 (fn ys i)) := OR.cell hyz i (by rw [HYLEN.out]; exact HIN.out)
                have HFI : Hid (∀ w', pcsLie w' x.procs → Calls Try.prog 13 #[pagg x, .int .i64 i] w' fun e w'' => ∃ b : Bool, e = .returned (.bool b) ∧ (b = true ↔ ∀ (j : Nat) (z : Pc), j < i → x.procs.l[j]? = some z → z.name ≠ y.name) ∧ Below w'.heap.size w' w'') := Lib.hid fun w' h => Tj.first_m _ _ x.procs i w' h HN.out HY.out
                have hkf' : (k : Int) < (fs.length : Int) := by omega
                have hcn' : (c : Int) < (x.procs.l.length : Int) := by omega
                have d0 : ∀ d os, (grow (redrawn wz d) os).cell? ⟨pb, 0, none⟩ = some (.slice x.structs.p x.structs.l.length x.structs.cap) := fun d os => (prog_regrown HKZ.out d os).1
                have d1 : ∀ d os, (grow (redrawn wz d) os).cell? ⟨pb, 1, none⟩ = some (.slice x.globals.p x.globals.l.length x.globals.cap) := fun d os => (prog_regrown HKZ.out d os).2.1
                have d2 : ∀ d os, (grow (redrawn wz d) os).cell? ⟨pb, 2, none⟩ = some (.slice x.procs.p x.procs.l.length x.procs.cap) := fun d os => (prog_regrown HKZ.out d os).2.2
                have d3 : ∀ d os, (grow (redrawn wz d) os).cell? ⟨rg, k, none⟩ = some (.int .i64 (c : Int)) := fun d os => cell_regrown cr1 d os
                have q0 : decide ((c : Int) < 0) = false := decide_eq_false (by omega)
                have q1 : decide ((x.procs.l.length : Int) ≤ (c : Int)) = false := decide_eq_false (by omega)
                have q2 : decide (x.procs.l.length ≤ c) = false := decide_eq_false (by omega)
                clear hc hoz e2 e3 cr1
                by_cases hf : ∀ (j : Nat) (z : Pc), j < i → x.procs.l[j]? = some z → z.name ≠ y.name
                · have CF : ∀ dd os, Calls Try.prog 13 #[pagg x, .int .i64 i] (grow (redrawn wz dd) os) fun en w'' => en = .returned (.bool true) ∧ ∃ p : Regrown, w'' = grow (redrawn wz p.d) p.os :=
                    fun dd os => Calls.regrown_of ((HFI.out _ (pcsLie_below HPZ.out (below_regrown _ _ _))).mono (by
                      rintro e w' ⟨b, rfl, hb, hb'⟩
                      rw [hb.2 hf]
                      exact ⟨rfl, hb'⟩))
                  have hlt : fn ys c < fn ys i := HLT.out i c HIN.out hcn (by rw [← plc_first HY.out hf]; exact HRT.out)
                  have d4 : ∀ d os, (grow (redrawn wz d) os).cell? ⟨gb, c, none⟩ = some (.int .i64 (fn ys c)) := fun d os => cell_regrown cyc d os
                  have d5 : ∀ d os, (grow (redrawn wz d) os).cell? ⟨gb, i, none⟩ = some (.int .i64 (fn ys i)) := fun d os => cell_regrown cyi d os
                  clear hf cyc cyi hyz hrt hcn
                  generalize fn ys c = p1 at *
                  generalize fn ys i = p2 at *
                  have hge : decide (p2 ≤ p1) = false := decide_eq_false (by omega)
                  go_wp2_with fail
                  refine wp_region_quiet_below (by kernel_rfl) (by kernel_rfl) ?_
                  repeat (go_big_quiet_step (with_reducible exact CF _ _))
                  refine wpQuiet_nil ?_
                  intro _ hw'
                  obtain ⟨⟨dq, osq⟩, hw''⟩ := hw'
                  subst hw''
                  have HBN : Hid (Below w8.heap.size w8 (grow (redrawn wz dq) osq)) := Lib.hid (HBZ.out.trans ((below_regrown wz dq osq).mono HBZ.out.size))
                  generalize grow (redrawn wz dq) osq = w9 at HBN ⊢
                  clear d0 d1 d2 d3 d4 d5 CF
                  go_wp2_with fail
                  go_roundw
                  case rel => exact ⟨k + 1, by go_num, by omega, HBN⟩
                  case measure => simp [Lib.intOf]; omega
                · have CF : ∀ dd os, Calls Try.prog 13 #[pagg x, .int .i64 i] (grow (redrawn wz dd) os) fun en w'' => en = .returned (.bool false) ∧ ∃ p : Regrown, w'' = grow (redrawn wz p.d) p.os :=
                    fun dd os => Calls.regrown_of ((HFI.out _ (pcsLie_below HPZ.out (below_regrown _ _ _))).mono (by
                      rintro e w' ⟨b, rfl, hb, hb'⟩
                      have : b = false := by
                        cases b with
                        | false => rfl
                        | true => exact absurd (hb.1 rfl) hf
                      rw [this]
                      exact ⟨rfl, hb'⟩))
                  clear hf cyc cyi hyz hrt hcn
                  go_wp2_with fail
                  refine wp_region_quiet_below (by kernel_rfl) (by kernel_rfl) ?_
                  repeat (go_big_quiet_step (with_reducible exact CF _ _))
                  refine wpQuiet_nil ?_
                  intro _ hw'
                  obtain ⟨⟨dq, osq⟩, hw''⟩ := hw'
                  subst hw''
                  have HBN : Hid (Below w8.heap.size w8 (grow (redrawn wz dq) osq)) := Lib.hid (HBZ.out.trans ((below_regrown wz dq osq).mono HBZ.out.size))
                  generalize grow (redrawn wz dq) osq = w9 at HBN ⊢
                  clear d0 d1 d2 d3 CF
                  go_wp2_with fail
                  go_roundw
                  case rel => exact ⟨k + 1, by go_num, by omega, HBN⟩
                  case measure => simp [Lib.intOf]; omega
              · have hke : k = fs.length := by omega
                subst hke
                have HBN : Hid (Below wL.heap.size wL wz) := Lib.hid (HB8.out.trans (HBZ.out.mono HB8.out.size))
                have hin2 := HIN.out
                clear HBZ
                go_wp2_with fail
                go_roundw
                case rel => exact ⟨i + 1, by go_num, by omega, HBN⟩
                case measure => simp [Lib.intOf]; omega
          · have hie : i = x.procs.l.length := by omega
            subst hie
            have b2 : wq.cell? ⟨pb, 2, none⟩ = some (.slice x.procs.p x.procs.l.length x.procs.cap) := HKQ.out.cell 2
            go_wp2_with (go_at_call 6; refine (lives_any _).mono ?_; rintro en w9 ⟨rfl, hb⟩; have HB9 := Lib.hid hb; clear hb)
            go_ret
            have HBZ := HXL.out.trans (HBQ.out.mono HXL.out.size)
            exact ⟨rfl, HBZ.trans (HB9.out.mono HBZ.size)⟩
end Go.Proofs.Ytmhpaacjioeknaa
