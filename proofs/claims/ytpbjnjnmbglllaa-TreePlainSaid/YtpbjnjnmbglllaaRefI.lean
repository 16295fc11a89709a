/-
  DERIVED. The walks of the document's Count, Loops, Deep.
-/
import Derived.Test.YtpbjnjnmbglllaaInts
namespace Go.Proofs.Ytpbjnjnmbglllaa
open Go.RowKit Go.Sort

/-- The first of what is left of a list that lies in memory. -/
theorem lies_head {w : World} {p : Option Addr} {k : Nat} {h : Hd} {tp : Option Addr} {tc : Nat} {t : SL} {ep : Option Addr} {ec : Nat} {e r : SL}
    (hr : SL.cons h tp tc t ep ec e r = .nil ∨ ∃ b o, p = some ⟨b, o, none⟩ ∧ lies w (.cons h tp tc t ep ec e r) b (o + k * 48)) :
    ∃ b o, p = some ⟨b, o, none⟩ ∧ w.rangeAt b (o + k * 48) (scells h tp t.len tc ep e.len ec) ∧ hdLies w h ∧ sLies w tp t ∧ sLies w ep e ∧ (r = .nil ∨ ∃ b' o', (some ⟨b, o, none⟩ : Option Addr) = some ⟨b', o', none⟩ ∧ lies w r b' (o' + (k + 1) * 48)) := by
  rcases hr with hr | ⟨b, o, hp, h1, h2, h3, h4, h5⟩
  · cases hr
  · exact ⟨b, o, hp, h1, h2, h3, h4, .inr ⟨b, o, rfl, by rw [show o + (k + 1) * 48 = o + k * 48 + 48 by omega]; exact h5⟩⟩

set_option maxHeartbeats 1600000 in
set_option maxRecDepth 100000 in
theorem ref11_one (l : SL) (hP : l.each (okI 11 SL.cntFrom)) : okI 11 SL.cntFrom l := by
  intro p c w hl hc
  obtain ⟨hlen, hl⟩ := hl
  have hlen' : l.len ≤ 300000000000 := by omega
  have HP := Lib.hid hP
  have HCN := Lib.hid hc
  clear hlen hP hc
  go_enter Try.func11, Try.ntmps11
  go_wp2_with fail
  go_loopw [3, 4] (fun v i wr => ∃ (k : Nat) (rest : SL) (n : Int), i = .int .i64 k ∧ v = .int .i64 n ∧ k ≤ l.len ∧ 0 ≤ n ∧ Hid (n + rest.count ≤ 10000) ∧ Hid (k + rest.len = l.len) ∧ Hid (SL.cntFrom l 0 = SL.cntFrom rest n) ∧
        Hid (rest = .nil ∨ ∃ b o, p = some ⟨b, o, none⟩ ∧ lies w rest b (o + k * 48)) ∧ Hid (rest.each (okI 11 SL.cntFrom)) ∧ Hid (Below w.heap.size w wr)) (fun _ i _ => l.len - (intOf i).toNat)
  case atStart => exact ⟨0, l, 0, rfl, rfl, Nat.zero_le _, Int.le_refl _, Lib.hid (by have := HCN.out; omega), Lib.hid (Nat.zero_add _), Lib.hid rfl, Lib.hid (by simpa using hl), HP, Lib.hid (Below.refl _ _)⟩
  case round =>
    obtain ⟨k, rest, n, rfl, rfl, hk, hn0, HN, HK, HG, HL, HQ, HB⟩ := hrel
    cases rest with
    | nil =>
      have hk' : l.len ≤ k := by have := HK.out; simp only [SL.len] at this; omega
      go_wp2_with fail
      go_ret
      exact ⟨ret_int (by rw [HG.out]; rfl), HB.out⟩
    | cons h tp tc t ep ec e r =>
      have hkl : k < l.len := by have := HK.out; simp only [SL.len] at this; omega
      obtain ⟨b, o, rfl, hrg, hhd, hts, hes, hrs⟩ := lies_head HL.out
      obtain ⟨hQt, hQe, hQr⟩ := HQ.out
      have hnc := HN.out
      simp only [SL.count] at hnc
      have ht0 := SL.cntFrom_eq t 0
      have he0 := SL.cntFrom_eq e 0
      have ht1 : 0 ≤ t.cntFrom 0 := by omega
      have he1 : 0 ≤ e.cntFrom 0 := by omega
      have ht2 : n + 1 + t.cntFrom 0 + e.cntFrom 0 ≤ 10000 := by omega
      have ht3 : n + 1 + t.cntFrom 0 ≤ 10000 := by omega
      have HX := Lib.hid ht0
      have HY := Lib.hid he0
      clear ht0 he0
      have HQR := Lib.hid hQr
      have HRS := Lib.hid hrs
      have hrw := rangeAt_below hrg HB.out
      have htw := sLies_below hts HB.out
      have hew := sLies_below hes HB.out
      clear hrg hhd hts hes hrs
      have cT : ∀ dd os, Calls Try.prog 11 #[.slice tp t.len tc] (grow (redrawn wr dd) os) fun en w'' => en = .returned (.int .i64 (t.cntFrom 0)) ∧ ∃ p : Regrown, w'' = grow (redrawn wr p.d) p.os :=
        fun dd os => Calls.regrown_of (hQt _ _ _ (sLies_below htw (below_regrown _ _ _)) (by omega))
      have cE : ∀ dd os, Calls Try.prog 11 #[.slice ep e.len ec] (grow (redrawn wr dd) os) fun en w'' => en = .returned (.int .i64 (e.cntFrom 0)) ∧ ∃ p : Regrown, w'' = grow (redrawn wr p.d) p.os :=
        fun dd os => Calls.regrown_of (hQe _ _ _ (sLies_below hew (below_regrown _ _ _)) (by omega))
      have c45 := cell_at hrw 45 _ rfl
      have c46 := cell_at hrw 46 _ rfl
      have k45 := cell_regrown c45
      have k46 := cell_regrown c46

      clear hrw htw hew hQt hQe hQr hnc
      have hk0 : (0 : Int) ≤ (k : Int) := Int.natCast_nonneg _
      have hk1 : (k : Int) < (l.len : Int) := by omega
      go_wp2_with fail
      refine wp_region_quiet_below (by kernel_rfl) (by kernel_rfl) ?_
      repeat (go_big_quiet_step (first | (with_reducible exact cT _ _) | (with_reducible exact cE _ _)))
      refine wpQuiet_nil ?_
      intro _ hw'
      obtain ⟨⟨dq, osq⟩, hw''⟩ := hw'
      subst hw''
      have HB3 : Hid (Below w.heap.size w (grow (redrawn wr dq) osq)) := Lib.hid (HB.out.trans ((below_regrown _ dq osq).mono HB.out.size))
      generalize grow (redrawn wr dq) osq = w3 at HB3 ⊢
      go_wp2_with fail
      go_roundw
      case rel =>
        exact ⟨k + 1, r, n + 1 + t.cntFrom 0 + e.cntFrom 0, by go_num, by simp, by omega, by omega, Lib.hid (by have := HN.out; have := HX.out; have := HY.out; simp only [SL.count] at *; omega), Lib.hid (by have := HK.out; simp only [SL.len] at this; omega), Lib.hid (by rw [HG.out]; rfl), HRS, HQR, HB3⟩
      case measure => simp [intOf]; omega

theorem ref11_any (l : SL) : okI 11 SL.cntFrom l := (SL.all ref11_one l).1

set_option maxHeartbeats 1600000 in
set_option maxRecDepth 100000 in
theorem ref13_one (l : SL) (hP : l.each (okI 13 SL.loopFrom)) : okI 13 SL.loopFrom l := by
  intro p c w hl hc
  obtain ⟨hlen, hl⟩ := hl
  have hlen' : l.len ≤ 300000000000 := by omega
  have HP := Lib.hid hP
  have HCN := Lib.hid hc
  clear hlen hP hc
  go_enter Try.func13, Try.ntmps13
  go_wp2_with fail
  go_loopw [3, 4] (fun v i wr => ∃ (k : Nat) (rest : SL) (n : Int), i = .int .i64 k ∧ v = .int .i64 n ∧ k ≤ l.len ∧ 0 ≤ n ∧ Hid (n + rest.count ≤ 10000) ∧ Hid (k + rest.len = l.len) ∧ Hid (SL.loopFrom l 0 = SL.loopFrom rest n) ∧
        Hid (rest = .nil ∨ ∃ b o, p = some ⟨b, o, none⟩ ∧ lies w rest b (o + k * 48)) ∧ Hid (rest.each (okI 13 SL.loopFrom)) ∧ Hid (Below w.heap.size w wr)) (fun _ i _ => l.len - (intOf i).toNat)
  case atStart => exact ⟨0, l, 0, rfl, rfl, Nat.zero_le _, Int.le_refl _, Lib.hid (by have := HCN.out; omega), Lib.hid (Nat.zero_add _), Lib.hid rfl, Lib.hid (by simpa using hl), HP, Lib.hid (Below.refl _ _)⟩
  case round =>
    obtain ⟨k, rest, n, rfl, rfl, hk, hn0, HN, HK, HG, HL, HQ, HB⟩ := hrel
    cases rest with
    | nil =>
      have hk' : l.len ≤ k := by have := HK.out; simp only [SL.len] at this; omega
      go_wp2_with fail
      go_ret
      exact ⟨ret_int (by rw [HG.out]; rfl), HB.out⟩
    | cons h tp tc t ep ec e r =>
      have hkl : k < l.len := by have := HK.out; simp only [SL.len] at this; omega
      obtain ⟨b, o, rfl, hrg, hhd, hts, hes, hrs⟩ := lies_head HL.out
      obtain ⟨hQt, hQe, hQr⟩ := HQ.out
      have hnc := HN.out
      simp only [SL.count] at hnc
      have ht0 := SL.loopFrom_bd t 0 (Int.le_refl _)
      have he0 := SL.loopFrom_bd e 0 (Int.le_refl _)
      have ht1 : 0 ≤ t.loopFrom 0 := by omega
      have he1 : 0 ≤ e.loopFrom 0 := by omega
      have ht2 : n + 1 + t.loopFrom 0 + e.loopFrom 0 ≤ 10000 := by omega
      have ht3 : n + 1 + t.loopFrom 0 ≤ 10000 := by omega
      have HX := Lib.hid ht0
      have HY := Lib.hid he0
      clear ht0 he0
      have HQR := Lib.hid hQr
      have HRS := Lib.hid hrs
      have hrw := rangeAt_below hrg HB.out
      have htw := sLies_below hts HB.out
      have hew := sLies_below hes HB.out
      clear hrg hhd hts hes hrs
      have cT : ∀ dd os, Calls Try.prog 13 #[.slice tp t.len tc] (grow (redrawn wr dd) os) fun en w'' => en = .returned (.int .i64 (t.loopFrom 0)) ∧ ∃ p : Regrown, w'' = grow (redrawn wr p.d) p.os :=
        fun dd os => Calls.regrown_of (hQt _ _ _ (sLies_below htw (below_regrown _ _ _)) (by omega))
      have cE : ∀ dd os, Calls Try.prog 13 #[.slice ep e.len ec] (grow (redrawn wr dd) os) fun en w'' => en = .returned (.int .i64 (e.loopFrom 0)) ∧ ∃ p : Regrown, w'' = grow (redrawn wr p.d) p.os :=
        fun dd os => Calls.regrown_of (hQe _ _ _ (sLies_below hew (below_regrown _ _ _)) (by omega))
      have c45 := cell_at hrw 45 _ rfl
      have c46 := cell_at hrw 46 _ rfl
      have k45 := cell_regrown c45
      have k46 := cell_regrown c46
      have c0 := cell_at hrw 0 _ rfl
      rw [Nat.add_zero] at c0

      clear hrw htw hew hQt hQe hQr hnc
      have hk0 : (0 : Int) ≤ (k : Int) := Int.natCast_nonneg _
      have hk1 : (k : Int) < (l.len : Int) := by omega
      have HS1 : ∀ x, h.kind = x → Hid (SL.loopFrom l 0 = SL.loopFrom r ((if x = 5 then n + 1 else n) + t.loopFrom 0 + e.loopFrom 0)) := fun x hx => Lib.hid (by rw [HG.out, ← hx]; rfl)
      generalize h.kind = kind at c0 HS1
      have HS := HS1 kind rfl
      clear HS1
      by_cases hk5 : kind = 5
      · subst hk5
        go_wp2_with fail
        refine wp_region_quiet_below (by kernel_rfl) (by kernel_rfl) ?_
        repeat (go_big_quiet_step (first | (with_reducible exact cT _ _) | (with_reducible exact cE _ _)))
        refine wpQuiet_nil ?_
        intro _ hw'
        obtain ⟨⟨dq, osq⟩, hw''⟩ := hw'
        subst hw''
        have HB3 : Hid (Below w.heap.size w (grow (redrawn wr dq) osq)) := Lib.hid (HB.out.trans ((below_regrown _ dq osq).mono HB.out.size))
        generalize grow (redrawn wr dq) osq = w3 at HB3 ⊢
        go_wp2_with fail
        go_roundw
        case rel =>
          exact ⟨k + 1, r, n + 1 + t.loopFrom 0 + e.loopFrom 0, by go_num, by simp, by omega, by omega, Lib.hid (by have := HN.out; have := HX.out; have := HY.out; simp only [SL.count] at *; omega), Lib.hid (by have := HK.out; simp only [SL.len] at this; omega), Lib.hid (by have := HS.out; rwa [if_pos trivial] at this), HRS, HQR, HB3⟩
        case measure => simp [intOf]; omega
      · have hk5' : (kind == 5) = false := by simpa using hk5
        rw [if_neg hk5] at HS
        clear hk5
        go_wp2_with fail
        refine wp_region_quiet_below (by kernel_rfl) (by kernel_rfl) ?_
        repeat (go_big_quiet_step (first | (with_reducible exact cT _ _) | (with_reducible exact cE _ _)))
        refine wpQuiet_nil ?_
        intro _ hw'
        obtain ⟨⟨dq, osq⟩, hw''⟩ := hw'
        subst hw''
        have HB3 : Hid (Below w.heap.size w (grow (redrawn wr dq) osq)) := Lib.hid (HB.out.trans ((below_regrown _ dq osq).mono HB.out.size))
        generalize grow (redrawn wr dq) osq = w3 at HB3 ⊢
        go_wp2_with fail
        go_roundw
        case rel =>
          exact ⟨k + 1, r, n + t.loopFrom 0 + e.loopFrom 0, by go_num, by simp, by omega, by omega, Lib.hid (by have := HN.out; have := HX.out; have := HY.out; simp only [SL.count] at *; omega), Lib.hid (by have := HK.out; simp only [SL.len] at this; omega), Lib.hid (HS.out), HRS, HQR, HB3⟩
        case measure => simp [intOf]; omega

theorem ref13_any (l : SL) : okI 13 SL.loopFrom l := (SL.all ref13_one l).1

end Go.Proofs.Ytpbjnjnmbglllaa
