/-
  DERIVED. The walk of the law on freed cells.
-/
import Derived.Test.YtocgallcmgnmgaaHr
namespace Go.Proofs.Ytocgallcmgnmgaa
open Go.RowKit Go.Maps

theorem u64_def (x : Int) : IntKind.u64.wrap x = x % 18446744073709551616 := by
  simp [IntKind.wrap, IntKind.bits, IntKind.signed]
theorem u64_ge (x : Int) : 0 ≤ IntKind.u64.wrap x := by rw [u64_def]; omega
theorem u64_lt (x : Int) : IntKind.u64.wrap x < 18446744073709551616 := by rw [u64_def]; omega
theorem u64_same (x : Int) (h0 : 0 ≤ x) (h1 : x < 18446744073709551616) : IntKind.u64.wrap x = x := by rw [u64_def]; omega
theorem below_cell {w w' : World} {p : Addr} {v : Value} (hb : Below w.heap.size w w') (h : w.cell? p = some v) : w'.cell? p = some v := (hb.cell (World.block_lt_of_cell? _ _ h)).trans h
theorem okI_of {x : Int} (h : -9223372036854775808 ≤ x ∧ x ≤ 9223372036854775807) : okI x := by
  unfold okI
  simp [Lit.wf, IntKind.min, IntKind.max, IntKind.signed, IntKind.bits]
  omega
set_option maxHeartbeats 6400000 in
set_option maxRecDepth 100000 in
theorem freed_law (n which : Int) (p : Option Addr) (l : List OpN) (cap : Nat) (w : World) (hn : (Lit.int .u8 n).wf = true) (hw : (Lit.int .u8 which).wf = true) (hl : LayR 5 OpN.cells (fun _ x => x.ok) w p l) :
    Calls Try.prog 4 #[.int .u8 n, .int .u8 which, .slice p l.length cap] w (livesP w) := by
  by_cases h60 : 60 < l.length
  · have hd : decide (60 < (l.length : Int)) = true := decide_eq_true (by omega)
    have HLV := Lib.hid (lives_any w)
    clear hn hw hl
    go_enter Try.func4, Try.ntmps4
    go_wp2_with (go_at_call 6; refine HLV.out.mono ?_; rintro e w2 ⟨rfl, hb2⟩; have HB2 := Lib.hid hb2; clear hb2)
    go_ret
    exact ⟨rfl, HB2.out⟩
  · have hd : decide (60 < (l.length : Int)) = false := decide_eq_false (by omega)
    have hlen : l.length ≤ 60 := by omega
    have HL := Lib.hid hl
    clear hl h60
    have hn0 : 0 ≤ n ∧ n ≤ 255 := by
      simp [Lit.wf, IntKind.min, IntKind.max, IntKind.signed, IntKind.bits] at hn; omega
    have hw0 : 0 ≤ which ∧ which ≤ 255 := by
      simp [Lit.wf, IntKind.min, IntKind.max, IntKind.signed, IntKind.bits] at hw; omega
    obtain ⟨hn1, hn2⟩ := hn0
    obtain ⟨hw1, hw2⟩ := hw0
    clear hn hw
    have HB0 : Hid (Below w.heap.size w (w.alloc (.cells #[.int .i64 0, .int .i64 0, .int .i64 0, .int .i64 0] 39))) := Lib.hid ((Below.refl _ _).alloc (Nat.le_refl _) _)
    have HN := Lib.hid (fun w1 : World => new_any 2 2 (some ⟨w.heap.size, 0, none⟩) w1)
    go_enter Try.func4, Try.ntmps4
    go_wp2_with fail
    generalize w.alloc (.cells #[.int .i64 0, .int .i64 0, .int .i64 0, .int .i64 0] 39) = wA at HB0 ⊢
    refine (HN.out wA).mono ?_; rintro e w1 ⟨rfl, hi, hb⟩
    have HA : Hid (HM wA w1 wA.heap.size 2 []) := Lib.hid (HM.new (e := .returned (.pointer (some ⟨wA.heap.size, 0, none⟩))) ⟨rfl, hi, hb⟩)
    clear hi hb
    generalize wA.heap.size = b at HA ⊢
    go_wp2_with fail
    generalize hmm : 1 + n % 8 = mm
    obtain ⟨m, rfl⟩ : ∃ m : Nat, mm = (m : Int) := ⟨mm.toNat, by omega⟩
    have hm1 : 1 ≤ m := by omega
    have hm8 : m ≤ 8 := by omega
    clear hmm
    have hmi1 : (1 : Int) ≤ (m : Int) := by omega
    have hmi8 : (m : Int) ≤ 8 := by omega
    go_loopw [9] (fun i wr => ∃ k : Nat, i = .int .i64 k ∧ k ≤ m ∧ Hid (HM wA wr b 2 (mkC k))) (fun i _ => m - (intOf i).toNat)
    case atStart => exact ⟨0, rfl, Nat.zero_le _, HA⟩
    case round =>
      obtain ⟨k, rfl, hk, HK⟩ := hrel
      by_cases hkm : k < m
      · have hadd := HK.out.add (k : Int) (by rw [mkC_len]; omega)
        rw [mkC_len, ← mkC_succ] at hadd
        have hadd' : Calls Try.prog 12 #[.pointer (some ⟨b, 0, none⟩), .int .i64 k] wr fun e w' => e = .returned (.int .i64 ((k : Int) + 1)) ∧ Hid (HM wA w' b 2 (mkC (k + 1))) := hadd
        have HAD := Lib.hid hadd'
        have hk0 : (0 : Int) ≤ (k : Int) := Int.natCast_nonneg _
        have hk1 : (k : Int) < (m : Int) := by omega
        clear hadd hadd'
        go_wp2_with (go_at_call 12; refine HAD.out.mono ?_; rintro e w2 ⟨rfl, HK2⟩)
        go_roundw
        case rel => exact ⟨k + 1, by go_num, by omega, HK2⟩
        case measure => simp [intOf]; omega
      · obtain rfl : k = m := by omega
        have HI0 : Hid (InvF k (mkC k)) := Lib.hid (invF_mk k)
        clear hkm hk
        generalize mkC k = cs0 at HK HI0
        go_wp2_with fail
        go_loopw [10] (fun i wr => ∃ (j : Nat) (cs : List PC), i = .int .i64 j ∧ j ≤ l.length ∧ Hid (HM wA wr b 2 cs) ∧ Hid (InvF k cs)) (fun i _ => l.length - (intOf i).toNat)
        case atStart => exact ⟨0, cs0, rfl, Nat.zero_le _, HK, HI0⟩
        case round =>
          obtain ⟨j, cs, rfl, hj, HKj, HIj⟩ := hrel
          by_cases hjl : j < l.length
          · obtain ⟨x, hx⟩ : ∃ x, l[j]? = some x := ⟨_, List.getElem?_eq_getElem hjl⟩
            have hbw : Below w.heap.size w wr := by
              obtain ⟨_, _, _, _, _, h4⟩ := HKj.out
              exact HB0.out.trans (h4.mono HB0.out.size)
            obtain ⟨lb, lo, rfl, hr, hok⟩ := HL.out.at_ hx
            have hr' : wr.rangeAt lb (lo + j * 5) x.cells := fun i v hv => (hbw.cell (p := ⟨lb, lo + j * 5 + i, none⟩) (World.block_lt_of_cell? _ _ (hr i v hv))).trans (hr i v hv)
            have x2 : wr.cell? ⟨lb, lo + j * 5 + 2, none⟩ = some (.int .i64 x.c) := hr' 2 _ rfl
            have x3 : wr.cell? ⟨lb, lo + j * 5 + 3, none⟩ = some (.int .i64 x.f) := hr' 3 _ rfl
            have x4 : wr.cell? ⟨lb, lo + j * 5 + 4, none⟩ = some (.int .i64 x.d) := hr' 4 _ rfl
            have hj0 : (0 : Int) ≤ (j : Int) := Int.natCast_nonneg _
            have hj1 : (j : Int) < (l.length : Int) := by omega
            obtain ⟨uc, huc, uc0, uc1⟩ : ∃ u, IntKind.u64.wrap x.c = u ∧ 0 ≤ u ∧ u < 18446744073709551616 := ⟨_, rfl, u64_ge _, u64_lt _⟩
            obtain ⟨uf, huf, uf0, uf1⟩ : ∃ u, IntKind.u64.wrap x.f = u ∧ 0 ≤ u ∧ u < 18446744073709551616 := ⟨_, rfl, u64_ge _, u64_lt _⟩
            obtain ⟨ud, hud, ud0, ud1⟩ : ∃ u, IntKind.u64.wrap x.d = u ∧ 0 ≤ u ∧ u < 18446744073709551616 := ⟨_, rfl, u64_ge _, u64_lt _⟩
            have huk : IntKind.u64.wrap (k : Int) = (k : Int) := u64_same _ (by omega) (by omega)
            obtain ⟨rc, hrc, rc0, rc1⟩ : ∃ u, uc % (k : Int) = u ∧ 0 ≤ u ∧ u < (k : Int) := ⟨_, rfl, Int.emod_nonneg _ (by omega), Int.emod_lt_of_pos _ (by omega)⟩
            obtain ⟨rf, hrf, rf0, rf1⟩ : ∃ u, uf % 2 = u ∧ 0 ≤ u ∧ u < 2 := ⟨_, rfl, Int.emod_nonneg _ (by omega), Int.emod_lt_of_pos _ (by omega)⟩
            obtain ⟨rd, hrd, rd0, rd1⟩ : ∃ u, ud % (k : Int) = u ∧ 0 ≤ u ∧ u < (k : Int) := ⟨_, rfl, Int.emod_nonneg _ (by omega), Int.emod_lt_of_pos _ (by omega)⟩
            have htc : Int.tmod uc (k : Int) = rc := by rw [Int.tmod_eq_emod_of_nonneg uc0]; exact hrc
            have htf : Int.tmod uf 2 = rf := by rw [Int.tmod_eq_emod_of_nonneg uf0]; exact hrf
            have htd : Int.tmod ud (k : Int) = rd := by rw [Int.tmod_eq_emod_of_nonneg ud0]; exact hrd
            have HPU := Lib.hid ((HKj.out.below (w' := wr.drew) (below_drew (Below.refl _ _))).put (1 + rc) rf (1 + rd) (by decide) (by have := HIj.out.1; unfold maxLen; omega) (okI_of (by omega)))
            have kz1 : ((k : Int) == 0) = false := by simp; omega
            have kz2 : ¬ ((k : Int) = 0) := by omega
            have kz3 : ¬ (k = 0) := by omega
            clear hr hr' hbw hx
            go_wp2_with fail
            go_still_tail 31, (by kernel_rfl)
            change wpList _ _ _ _ _ wr.drew
            have HIJ : Hid (InvF k (putC 2 cs (1 + rc) rf (1 + rd))) := Lib.hid (invF_put HIj.out _ _ _)
            go_wp2_with (go_at_call 13; refine HPU.out.mono ?_; rintro e w2 ⟨rfl, HK2⟩)
            go_roundw
            case rel => exact ⟨j + 1, _, by go_num, by omega, HK2, HIJ⟩
            case measure => simp [intOf]; omega
          · clear hj
            have hlk := HIj.out.1
            have hCE := HKj.out.cells (by decide) (by omega)
            have HCE := Lib.hid hCE
            obtain ⟨i, hwi⟩ : ∃ i : Nat, which % (k : Int) = (i : Int) := ⟨(which % (k : Int)).toNat, by have := Int.emod_nonneg which (show (k : Int) ≠ 0 by omega); omega⟩
            have hik : i < k := by have := Int.emod_lt_of_pos which (show (0 : Int) < (k : Int) by omega); omega
            have hti : Int.tmod which (k : Int) = (i : Int) := by rw [Int.tmod_eq_emod_of_nonneg hw1]; exact hwi
            obtain ⟨x, hx⟩ : ∃ x, cs[i]? = some x := ⟨_, List.getElem?_eq_getElem (show i < cs.length by omega)⟩
            have hxf := HIj.out.2 i x hx
            have HX := Lib.hid hx
            have HXF := Lib.hid hxf
            have HLK := Lib.hid hlk
            have hf0 : faultC cs (1 + (i : Int)) = 0 := by rw [Int.add_comm, fault_at cs i x hx, hxf]; rfl
            have hc1 : freeC 2 cs (1 + (i : Int)) = cs.set i (freed 2 x) := by rw [Int.add_comm]; exact freeC_at 2 cs i x hx hxf
            have hx1 : (cs.set i (freed 2 x))[i]? = some (freed 2 x) := by rw [List.getElem?_set_self (by omega)]
            have hf1 : faultC (cs.set i (freed 2 x)) (1 + (i : Int)) = 2 := by rw [Int.add_comm, fault_at _ i _ hx1]; rfl
            have hF1 : ∀ (wz : World) N, Hid (HMN wA wz b 2 cs N) → Calls Try.prog 15 #[.pointer (some ⟨b, 0, none⟩), .int .i64 (1 + (i : Int))] wz fun e w' => e = .returned (.int .i64 0) ∧ Hid (HMN wA w' b 2 (cs.set i (freed 2 x)) N) ∧ Hid (Gr wz w' (fun k => ¬ N k)) := fun wz N h => by
              have := h.out.free (1 + (i : Int)) (by unfold maxLen; omega)
              rw [hc1, freeE_of hf0, if_neg (by decide)] at this
              exact this
            have hF2 : ∀ (wz : World) N, Hid (HMN wA wz b 2 (cs.set i (freed 2 x)) N) → Calls Try.prog 15 #[.pointer (some ⟨b, 0, none⟩), .int .i64 (1 + (i : Int))] wz fun e w' => e = .returned (.int .i64 3) ∧ Hid (HMN wA w' b 2 (cs.set i (freed 2 x)) N) ∧ Hid (Gr wz w' (fun k => ¬ N k)) := fun wz N h => by
              have := h.out.free (1 + (i : Int)) (by rw [List.length_set]; unfold maxLen; omega)
              rw [freeC_no 2 _ _ (by rw [hf1]; decide), freeE_of hf1, if_pos rfl] at this
              exact this
            have hF3 : ∀ (wz : World) N, Hid (HMN wA wz b 2 (cs.set i (freed 2 x)) N) → Calls Try.prog 13 #[.pointer (some ⟨b, 0, none⟩), .int .i64 (1 + (i : Int)), .int .i64 0, .int .i64 1] wz fun e w' => e = .returned (.int .i64 2) ∧ Hid (HMN wA w' b 2 (cs.set i (freed 2 x)) N) ∧ Hid (Gr wz w' (fun k => ¬ N k)) := fun wz N h => by
              have := h.out.put (1 + (i : Int)) 0 1 (by decide) (by rw [List.length_set]; unfold maxLen; omega) rfl
              rw [putC_no 2 _ _ _ _ (.inl (by rw [hf1]; decide)), hf1] at this
              exact this
            have HF1 := Lib.hid hF1
            have HF2 := Lib.hid hF2
            have HF3 := Lib.hid hF3
            have kz1 : ((k : Int) == 0) = false := by simp; omega
            have kz2 : ¬ ((k : Int) = 0) := by omega
            have kz3 : ¬ (k = 0) := by omega
            have hi0 : (0 : Int) ≤ (i : Int) := Int.natCast_nonneg _
            have hik' : (i : Int) < (k : Int) := by omega
            have hlset : (cs.set i (freed 2 x)).length = k := by rw [List.length_set]; exact hlk
            have HLS := Lib.hid hlset
            clear hCE hF1 hF2 hF3 hf0 hf1 hc1 hx1 hx hxf hlk hlset
            go_wp2_with fail
            refine HCE.out.mono ?_; rintro e w2 ⟨vw, N, rfl, HOW, HM2⟩
            obtain ⟨pw, cw, evw⟩ := HOW.out.form
            rw [HLK.out] at evw
            subst evw
            go_wp2_with fail
            refine (HF1.out w2 N HM2).mono ?_; rintro e w3 ⟨rfl, HM3, HG3⟩
            go_wp2_with fail
            refine (HF2.out w3 N HM3).mono ?_; rintro e w4 ⟨rfl, HM4, HG4⟩
            go_wp2_with fail
            refine (HF3.out w4 N HM4).mono ?_; rintro e w5 ⟨rfl, HM5, HG5⟩
            have HOW5 := Lib.hid (((HOW.out.gr HG3.out (fun _ h hn => hn h)).gr HG4.out (fun _ h hn => hn h)).gr HG5.out (fun _ h hn => hn h))
            have HCN := Lib.hid (HM5.out.cells (by decide) (by rw [HLS.out]; omega))
            go_wp2_with fail
            refine HCN.out.mono ?_; rintro e w6 ⟨vn, N6, rfl, HON, HB6, HBW⟩
            have HOW6 := Lib.hid (HOW5.out.below HB6.out)
            obtain ⟨pn, cn, evn⟩ := HON.out.form
            rw [HLS.out] at evn
            subst evn
            go_wp2_with fail
            have HB66 : Hid (Below w6.heap.size w6 w6) := Lib.hid (Below.refl _ _)
            go_loopw [14] (fun t wr => ∃ q : Nat, t = .int .i64 q ∧ q ≤ k ∧ Hid (Below w6.heap.size w6 wr)) (fun t _ => k - (intOf t).toNat)
            case atStart => exact ⟨0, rfl, Nat.zero_le _, HB66⟩
            case round =>
              obtain ⟨q, rfl, hq, HBQ⟩ := hrel
              by_cases hqk : q < k
              · obtain ⟨y, hy⟩ : ∃ y, (cs.set i (freed 2 x))[q]? = some y := ⟨_, List.getElem?_eq_getElem (by rw [HLS.out]; exact hqk)⟩
                obtain ⟨z, hz⟩ : ∃ z, cs[q]? = some z := ⟨_, List.getElem?_eq_getElem (by rw [HLK.out]; exact hqk)⟩
                obtain ⟨gn, _, tn, to, ctn, en, n1, n2, n3, n4⟩ := (OutR.item HON.out hy)
                obtain ⟨gw, _, tw, two, ctw, ew, _, o2, o3, o4⟩ := (OutR.item HOW6.out hz)
                obtain ⟨rfl, _⟩ : pn = some ⟨gn, 0, none⟩ ∧ True := ⟨by injection en, trivial⟩
                obtain ⟨rfl, _⟩ : pw = some ⟨gw, 0, none⟩ ∧ True := ⟨by injection ew, trivial⟩
                have n1' := below_cell HBQ.out n1
                have n2' := below_cell HBQ.out n2
                have n3' := below_cell HBQ.out n3
                have n4' := below_cell HBQ.out n4
                have o2' := below_cell HBQ.out o2
                have o3' := below_cell HBQ.out o3
                have o4' := below_cell HBQ.out o4
                have hq0 : (0 : Int) ≤ (q : Int) := Int.natCast_nonneg _
                have hq1 : (q : Int) < (k : Int) := by omega
                have h1i : 1 + (i : Int) - 1 = (i : Int) := by omega
                have HBD : Hid (Below w6.heap.size w6 wr.drew) := Lib.hid (below_drew HBQ.out)
                clear n1 n2 n3 n4 o2 o3 o4 en ew
                by_cases hqi : q = i
                · subst hqi
                  obtain rfl : y = freed 2 x := by
                    rw [List.getElem?_set_self (by rw [HLK.out]; exact hqk)] at hy; injection hy with hy; exact hy.symm
                  have hz0 : (freed 2 x).at 0 = 0 := zeros_at 2 0
                  have hz1 : (freed 2 x).at 1 = 0 := zeros_at 2 1
                  have hzf : (freed 2 x).fr = true := rfl
                  rw [hz0] at n3'
                  rw [hz1] at n4'
                  rw [hzf] at n1'
                  clear hy hz hz0 hz1 hzf
                  go_wp2_with fail
                  go_quiet (fail)
                  go_wp2_with fail
                  go_roundw
                  case rel => exact ⟨q + 1, by go_num, by omega, Lib.hid (below_drewN_ HBQ.out _)⟩
                  case measure => simp [intOf]; omega
                · obtain rfl : y = z := by
                    rw [List.getElem?_set_ne (fun e => hqi e.symm), hz] at hy; injection hy with hy; exact hy.symm
                  have hzf := HIj.out.2 q y hz
                  have hq2 : ((q : Int) == (i : Int)) = false := by simp; omega
                  have hq3 : (q == i) = false := by simpa using hqi
                  have hq4 : decide (q = i) = false := decide_eq_false hqi
                  have hq5 : ((q : Int) != (i : Int)) = true := by simp; omega
                  have hq6 : (q != i) = true := by simpa using hqi
                  rw [hzf] at n1'
                  clear hy hz hzf
                  go_wp2_with fail
                  go_quiet (fail)
                  go_wp2_with fail
                  go_roundw
                  case rel => exact ⟨q + 1, by go_num, by omega, Lib.hid (below_drewN_ HBQ.out _)⟩
                  case measure => simp [intOf]; omega
              · have HLV := Lib.hid (lives_any wr)
                have HBZ : Hid (Below w.heap.size w wr) := Lib.hid ((HB0.out.trans (HBW.out.mono HB0.out.size)).trans (HBQ.out.mono (HB0.out.trans (HBW.out.mono HB0.out.size)).size))
                go_wp2_with (go_at_call 6; refine HLV.out.mono ?_; rintro e wz ⟨rfl, hbz⟩; have HB9 : Hid (Below w.heap.size w wz) := Lib.hid (HBZ.out.trans (hbz.mono HBZ.out.size)); clear hbz)
                go_ret
                exact ⟨rfl, HB9.out⟩
end Go.Proofs.Ytocgallcmgnmgaa
