/-
  DERIVED. The walks of the fold over statements that comes to a number, and of Deep, Count, Loops.
-/
import Derived.Test.YtpbjnjnmbglllaaPl
import Derived.WalkLawsBesides
namespace Go.Proofs.Ytpbjnjnmbglllaa
open Go.RowKit Go.Sort

/-- What a step of a fold over statements comes to: asked of the function that is handed in. -/
def StepI (F : FuncId) (g : Hd → SL → SL → Int → Int) (P : SL → Prop) : Prop :=
  ∀ (h : Hd) (tp : Option Addr) (tc : Nat) (t : SL) (ep : Option Addr) (ec : Nat) (e : SL) (a i : Int) (b q : Nat) (w : World), P t → P e → w.rangeAt b q (scells h tp t.len tc ep e.len ec) → sLies w tp t → sLies w ep e →
    0 ≤ a → a + 1 + t.count + e.count ≤ 10000 →
    Calls Try.prog F #[.int .i64 a, .int .i64 i, .pointer (some ⟨b, q, none⟩)] w fun en w' => en = .returned (.int .i64 (g h t e a)) ∧ Below w.heap.size w w'
/-- The fold's own number. -/
def foldI (g : Hd → SL → SL → Int → Int) : SL → Int → Int
  | .nil, a => a
  | .cons h _ _ t _ _ e r, a => foldI g r (g h t e a)

set_option maxHeartbeats 1600000 in
set_option maxRecDepth 100000 in
theorem foldI_any (F : FuncId) (g : Hd → SL → SL → Int → Int) (P : SL → Prop) (hF : ∀ args w, (callFunc F args).run Try.prog w = .ok (.enter F args) w)
    (hg : ∀ h t e a, 0 ≤ a → 0 ≤ g h t e a ∧ g h t e a ≤ a + 1 + SL.count t + SL.count e) (hS : StepI F g P)
    (l : SL) (p : Option Addr) (c : Nat) (a : Int) (w : World) (hP : l.each P) (hl : sLies w p l) (ha : 0 ≤ a) (hc : a + l.count ≤ 10000) :
    Calls Try.prog 25 #[.slice p l.len c, .int .i64 a, .func (.func F) #[] #[]] w fun en w' => en = .returned (.int .i64 (foldI g l a)) ∧ Below w.heap.size w w' := by
  obtain ⟨hlen, hl⟩ := hl
  have hlen' : l.len ≤ 300000000000 := by omega
  have HP := Lib.hid hP
  have HS := Lib.hid hS
  have HGB := Lib.hid hg
  have HFF := Lib.hid hF
  have HCN := Lib.hid hc
  clear hlen hP hS hg hF hc
  go_enter Try.func25, Try.ntmps25
  go_wp2_with fail
  go_loopw [1, 10] (fun v i wr => ∃ (k : Nat) (rest : SL) (n : Int), i = .int .i64 k ∧ v = .int .i64 n ∧ k ≤ l.len ∧ 0 ≤ n ∧ Hid (n + rest.count ≤ 10000) ∧ Hid (k + rest.len = l.len) ∧ Hid (foldI g l a = foldI g rest n) ∧
        Hid (rest = .nil ∨ ∃ b o, p = some ⟨b, o, none⟩ ∧ lies w rest b (o + k * 48)) ∧ Hid (rest.each P) ∧ Hid (Below w.heap.size w wr)) (fun _ i _ => l.len - (intOf i).toNat)
  case atStart => exact ⟨0, l, a, rfl, rfl, Nat.zero_le _, ha, HCN, Lib.hid (Nat.zero_add _), Lib.hid rfl, Lib.hid (by simpa using hl), HP, Lib.hid (Below.refl _ _)⟩
  case round =>
    obtain ⟨k, rest, n, rfl, rfl, hk, hn0, HN, HK, HG, HL, HQ, HB⟩ := hrel
    cases rest with
    | nil =>
      have hk' : l.len ≤ k := by have := HK.out; simp only [SL.len] at this; omega
      go_wp2_with fail
      go_ret
      exact ⟨ret_int (by rw [HG.out]; rfl), HB.out⟩
    | cons h tp tc t ep ec e r =>
      have hkl : k < l.len := by have := HK.out; simp only [SL.len] at this; omega
      have hr := HL.out
      obtain ⟨b, o, rfl, hrg, hhd, hts, hes, hrs⟩ : ∃ b o, p = some ⟨b, o, none⟩ ∧ w.rangeAt b (o + k * 48) (scells h tp t.len tc ep e.len ec) ∧ hdLies w h ∧ sLies w tp t ∧ sLies w ep e ∧ (r = .nil ∨ lies w r b (o + k * 48 + 48)) := by
        rcases hr with hr | ⟨b, o, hp, h1, h2, h3, h4, h5⟩
        · cases hr
        · exact ⟨b, o, hp, h1, h2, h3, h4, .inr h5⟩
      obtain ⟨hQt, hQe, hQr⟩ := HQ.out
      have HC := Lib.hid (HS.out h tp tc t ep ec e n k b (o + k * 48) wr hQt hQe (rangeAt_below hrg HB.out) (sLies_below hts HB.out) (sLies_below hes HB.out) hn0 (by have := HN.out; simp only [SL.count] at this; omega))
      have HQR := Lib.hid hQr
      have HRS := Lib.hid hrs
      have hf1 := HFF.out
      clear hrg hhd hts hes hrs hQt hQe hQr hr
      go_wp2_with fail
      refine (HC.out).mono ?_; rintro en w3 ⟨rfl, hb⟩
      have HB3 : Hid (Below w.heap.size w w3) := Lib.hid (HB.out.trans (hb.mono HB.out.size))
      clear hb hf1
      go_wp2_with fail
      go_roundw
      case rel =>
        refine ⟨k + 1, r, g h t e n, by go_num, rfl, by omega, ((HGB.out) h t e n hn0).1, Lib.hid ?_, Lib.hid (by have := HK.out; simp only [SL.len] at this; omega), Lib.hid (by rw [HG.out]; rfl), Lib.hid ?_, HQR, HB3⟩
        · have := HN.out; have := ((HGB.out) h t e n hn0).2; simp only [SL.count] at *; omega
        · rcases HRS.out with hr | hr
          · exact .inl hr
          · exact .inr ⟨b, o, rfl, by rw [show o + (k + 1) * 48 = o + k * 48 + 48 by omega]; exact hr⟩
      case measure => simp [intOf]; omega

theorem enters {F : FuncId} {fn : Func} {c : Code} (hf : Try.prog.funcs[F]? = some fn) (hname : (fn.name == "runtime.NumGoroutine") = false) (hb : fn.body = some c) : ∀ args w, (callFunc F args).run Try.prog w = .ok (.enter F args) w := by
  intro args w
  have h1 : fn.name ≠ "runtime.NumGoroutine" := by simpa using hname
  simp [callFunc, hf, h1, hb, mark]
theorem enters26 : ∀ args w, (callFunc 26 args).run Try.prog w = .ok (.enter 26 args) w := enters Try.func26 (by kernel_rfl) rfl
theorem enters28 : ∀ args w, (callFunc 28 args).run Try.prog w = .ok (.enter 28 args) w := enters Try.func28 (by kernel_rfl) rfl
theorem enters29 : ∀ args w, (callFunc 29 args).run Try.prog w = .ok (.enter 29 args) w := enters Try.func29 (by kernel_rfl) rfl

/-- A statement's cell. -/
theorem cell_at {w : World} {b q : Nat} {cs : List Value} (h : w.rangeAt b q cs) (j : Nat) (v : Value) (hv : cs[j]? = some v) : w.cell? ⟨b, q + j, none⟩ = some v := h j v hv

set_option maxHeartbeats 800000 in
set_option maxRecDepth 100000 in
theorem holds_any (h : Hd) (tp : Option Addr) (tn tc : Nat) (ep : Option Addr) (en ec b q : Nat) (w : World) (hr : w.rangeAt b q (scells h tp tn tc ep en ec)) :
    Calls Try.prog 27 #[.pointer (some ⟨b, q, none⟩)] w fun e w' => e = .returned (.bool (hold h.kind tn en)) ∧ w = w' := by
  have c0 := cell_at hr 0 _ rfl
  have c45 := cell_at hr 45 _ rfl
  have c46 := cell_at hr 46 _ rfl
  rw [Nat.add_zero] at c0
  clear hr
  generalize h.kind = kind at c0 ⊢
  cases k4 : (kind == 4)
  · cases k5 : (kind == 5)
    · cases k6 : (kind == 6)
      · have HH : ∀ tn en, hold kind tn en = (decide (0 < tn) || decide (0 < en)) := fun tn en => by unfold hold; rw [k4, k5, k6]; rfl
        have HH' := Lib.hid HH
        clear HH
        go_enter Try.func27, Try.ntmps27
        go_wp2_with fail
        all_goals
          go_ret
          exact ⟨ret_bool (by rw [HH'.out]; first | (simp_all; done) | (simp_all; omega)), rfl⟩
      · have HH : Hid (hold kind tn en = true) := Lib.hid (by unfold hold; rw [k6]; simp)
        go_enter Try.func27, Try.ntmps27
        go_wp2_with fail
        go_ret
        exact ⟨ret_bool HH.out.symm, rfl⟩
    · have HH : Hid (hold kind tn en = true) := Lib.hid (by unfold hold; rw [k5]; simp)
      go_enter Try.func27, Try.ntmps27
      go_wp2_with fail
      go_ret
      exact ⟨ret_bool HH.out.symm, rfl⟩
  · have HH : Hid (hold kind tn en = true) := Lib.hid (by unfold hold; rw [k4]; simp)
    go_enter Try.func27, Try.ntmps27
    go_wp2_with fail
    go_ret
    exact ⟨ret_bool HH.out.symm, rfl⟩


/-- What each of the three is on lists within lists. -/
def okI (F : FuncId) (G : SL → Int → Int) (l : SL) : Prop := ∀ (p : Option Addr) (c : Nat) (w : World), sLies w p l → l.count ≤ 10000 →
  Calls Try.prog F #[.slice p l.len c] w fun e w' => e = .returned (.int .i64 (G l 0)) ∧ Below w.heap.size w w'

set_option maxHeartbeats 800000 in
set_option maxRecDepth 100000 in
theorem stepDeep : StepI 26 (fun h t e a => dg h.kind t.len e.len (t.deepFrom 0) (e.deepFrom 0) a) (okI 8 SL.deepFrom) := by
  intro h tp tc t ep ec e a i b q w hT hE hr ht he ha hc
  show Calls _ _ _ _ (fun en w' => en = .returned (.int .i64 (dg h.kind t.len e.len (t.deepFrom 0) (e.deepFrom 0) a)) ∧ Below w.heap.size w w')
  have c45 := cell_at hr 45 _ rfl
  have c46 := cell_at hr 46 _ rfl
  have HH := Lib.hid (holds_any h tp t.len tc ep e.len ec b q w hr)
  have ht0 := SL.deepFrom_bd t 0 (Int.le_refl _)
  have he0 := SL.deepFrom_bd e 0 (Int.le_refl _)
  have cT : ∀ dd os, Calls Try.prog 8 #[.slice tp t.len tc] (grow (redrawn w dd) os) fun en w'' => en = .returned (.int .i64 (t.deepFrom 0)) ∧ ∃ p : Regrown, w'' = grow (redrawn w p.d) p.os :=
    fun dd os => Calls.regrown_of (hT _ _ _ (sLies_below ht (below_regrown _ _ _)) (by omega))
  have cE : ∀ dd os, Calls Try.prog 8 #[.slice ep e.len ec] (grow (redrawn w dd) os) fun en w'' => en = .returned (.int .i64 (e.deepFrom 0)) ∧ ∃ p : Regrown, w'' = grow (redrawn w p.d) p.os :=
    fun dd os => Calls.regrown_of (hE _ _ _ (sLies_below he (below_regrown _ _ _)) (by omega))
  have k45 := cell_regrown c45
  have k46 := cell_regrown c46
  clear hr ht he hT hE
  generalize t.deepFrom 0 = dt at *
  generalize e.deepFrom 0 = de at *
  have HDG : Hid (∀ b, hold h.kind t.len e.len = b → dg h.kind t.len e.len dt de a = if b = true then max (max a (1 + dt)) (1 + de) else a) := Lib.hid (fun b hb => by unfold dg; rw [hb])
  cases hh : hold h.kind t.len e.len
  · have HD := Lib.hid (HDG.out _ hh)
    rw [hh] at HH
    clear hh HDG
    go_enter Try.func26, Try.ntmps26
    go_wp2_with (go_at_call 27; refine (HH.out).mono ?_; rintro en w' ⟨rfl, rfl⟩)
    go_ret
    exact ⟨ret_int (by rw [HD.out]; rfl), Below.refl _ _⟩
  · have HD := Lib.hid (HDG.out _ hh)
    rw [hh] at HH
    clear hh HDG
    go_enter Try.func26, Try.ntmps26
    go_wp2_with (go_at_call 27; refine (HH.out).mono ?_; rintro en w' ⟨rfl, rfl⟩)
    refine wp_region_quiet_below (by kernel_rfl) (by kernel_rfl) ?_
    repeat (go_big_quiet_step (first | (with_reducible exact cT _ _) | (with_reducible exact cE _ _)))
    refine wpQuiet_nil ?_
    intro _ hw'
    obtain ⟨⟨dq, osq⟩, hw''⟩ := hw'
    subst hw''
    have HB3 := Lib.hid (below_regrown w dq osq)
    generalize grow (redrawn w dq) osq = w3 at HB3 ⊢
    go_wp2_with fail
    all_goals
      go_ret
      exact ⟨ret_int (by rw [HD.out]; simp only [if_true]; omega), HB3.out⟩

set_option maxHeartbeats 800000 in
set_option maxRecDepth 100000 in
theorem stepCount : StepI 28 (fun _ t e a => a + 1 + t.cntFrom 0 + e.cntFrom 0) (okI 10 SL.cntFrom) := by
  intro h tp tc t ep ec e a i b q w hT hE hr ht he ha hc
  show Calls _ _ _ _ (fun en w' => en = .returned (.int .i64 (a + 1 + t.cntFrom 0 + e.cntFrom 0)) ∧ Below w.heap.size w w')
  have c45 := cell_at hr 45 _ rfl
  have c46 := cell_at hr 46 _ rfl
  have ht0 := SL.cntFrom_eq t 0
  have he0 := SL.cntFrom_eq e 0
  have ht1 : 0 ≤ t.cntFrom 0 := by omega
  have he1 : 0 ≤ e.cntFrom 0 := by omega
  have ht2 : a + 1 + t.cntFrom 0 + e.cntFrom 0 ≤ 10000 := by omega
  have ht3 : a + 1 + t.cntFrom 0 ≤ 10000 := by omega
  clear ht0 he0
  have cT : ∀ dd os, Calls Try.prog 10 #[.slice tp t.len tc] (grow (redrawn w dd) os) fun en w'' => en = .returned (.int .i64 (t.cntFrom 0)) ∧ ∃ p : Regrown, w'' = grow (redrawn w p.d) p.os :=
    fun dd os => Calls.regrown_of (hT _ _ _ (sLies_below ht (below_regrown _ _ _)) (by omega))
  have cE : ∀ dd os, Calls Try.prog 10 #[.slice ep e.len ec] (grow (redrawn w dd) os) fun en w'' => en = .returned (.int .i64 (e.cntFrom 0)) ∧ ∃ p : Regrown, w'' = grow (redrawn w p.d) p.os :=
    fun dd os => Calls.regrown_of (hE _ _ _ (sLies_below he (below_regrown _ _ _)) (by omega))
  have k45 := cell_regrown c45
  have k46 := cell_regrown c46
  clear hr ht he hT hE
  generalize t.cntFrom 0 = dt at *
  generalize e.cntFrom 0 = de at *
  go_enter Try.func28, Try.ntmps28
  go_wp2_with fail
  refine wp_region_quiet_below (by kernel_rfl) (by kernel_rfl) ?_
  repeat (go_big_quiet_step (first | (with_reducible exact cT _ _) | (with_reducible exact cE _ _)))
  refine wpQuiet_nil ?_
  intro _ hw'
  obtain ⟨⟨dq, osq⟩, hw''⟩ := hw'
  subst hw''
  have HB3 := Lib.hid (below_regrown w dq osq)
  generalize grow (redrawn w dq) osq = w3 at HB3 ⊢
  go_wp2_with fail
  go_ret
  exact ⟨ret_int (by simp), HB3.out⟩

set_option maxHeartbeats 800000 in
set_option maxRecDepth 100000 in
theorem stepLoops : StepI 29 (fun h t e a => (if h.kind = 5 then a + 1 else a) + t.loopFrom 0 + e.loopFrom 0) (okI 12 SL.loopFrom) := by
  intro h tp tc t ep ec e a i b q w hT hE hr ht he ha hc
  show Calls _ _ _ _ (fun en w' => en = .returned (.int .i64 ((if h.kind = 5 then a + 1 else a) + t.loopFrom 0 + e.loopFrom 0)) ∧ Below w.heap.size w w')
  have c0 := cell_at hr 0 _ rfl
  rw [Nat.add_zero] at c0
  have c45 := cell_at hr 45 _ rfl
  have c46 := cell_at hr 46 _ rfl
  have ht0 := SL.loopFrom_bd t 0 (Int.le_refl _)
  have he0 := SL.loopFrom_bd e 0 (Int.le_refl _)
  have ht1 : 0 ≤ t.loopFrom 0 := by omega
  have he1 : 0 ≤ e.loopFrom 0 := by omega
  have ht2 : a + 1 + t.loopFrom 0 + e.loopFrom 0 ≤ 10000 := by omega
  have ht3 : a + 1 + t.loopFrom 0 ≤ 10000 := by omega
  clear ht0 he0
  have cT : ∀ dd os, Calls Try.prog 12 #[.slice tp t.len tc] (grow (redrawn w dd) os) fun en w'' => en = .returned (.int .i64 (t.loopFrom 0)) ∧ ∃ p : Regrown, w'' = grow (redrawn w p.d) p.os :=
    fun dd os => Calls.regrown_of (hT _ _ _ (sLies_below ht (below_regrown _ _ _)) (by omega))
  have cE : ∀ dd os, Calls Try.prog 12 #[.slice ep e.len ec] (grow (redrawn w dd) os) fun en w'' => en = .returned (.int .i64 (e.loopFrom 0)) ∧ ∃ p : Regrown, w'' = grow (redrawn w p.d) p.os :=
    fun dd os => Calls.regrown_of (hE _ _ _ (sLies_below he (below_regrown _ _ _)) (by omega))
  have k45 := cell_regrown c45
  have k46 := cell_regrown c46
  clear hr ht he hT hE
  generalize t.loopFrom 0 = dt at *
  generalize e.loopFrom 0 = de at *
  generalize h.kind = kind at *
  by_cases hk : kind = 5
  · subst hk
    go_enter Try.func29, Try.ntmps29
    go_wp2_with fail
    refine wp_region_quiet_below (by kernel_rfl) (by kernel_rfl) ?_
    repeat (go_big_quiet_step (first | (with_reducible exact cT _ _) | (with_reducible exact cE _ _)))
    refine wpQuiet_nil ?_
    intro _ hw'
    obtain ⟨⟨dq, osq⟩, hw''⟩ := hw'
    subst hw''
    have HB3 := Lib.hid (below_regrown w dq osq)
    generalize grow (redrawn w dq) osq = w3 at HB3 ⊢
    go_wp2_with fail
    go_ret
    exact ⟨ret_int (by simp), HB3.out⟩
  · have hk' : (kind == 5) = false := by simpa using hk
    rw [if_neg hk]
    clear hk
    go_enter Try.func29, Try.ntmps29
    go_wp2_with fail
    refine wp_region_quiet_below (by kernel_rfl) (by kernel_rfl) ?_
    repeat (go_big_quiet_step (first | (with_reducible exact cT _ _) | (with_reducible exact cE _ _)))
    refine wpQuiet_nil ?_
    intro _ hw'
    obtain ⟨⟨dq, osq⟩, hw''⟩ := hw'
    subst hw''
    have HB3 := Lib.hid (below_regrown w dq osq)
    generalize grow (redrawn w dq) osq = w3 at HB3 ⊢
    go_wp2_with fail
    go_ret
    exact ⟨ret_int (by simp), HB3.out⟩

theorem foldI_eq {g : Hd → SL → SL → Int → Int} {G : SL → Int → Int} (h0 : ∀ a, G .nil a = a) (h1 : ∀ h tp tc t ep ec e r a, G (.cons h tp tc t ep ec e r) a = G r (g h t e a)) : ∀ l a, foldI g l a = G l a
  | .nil, a => (h0 a).symm
  | .cons h tp tc t ep ec e r, a => by rw [h1]; exact foldI_eq h0 h1 r _

theorem deep_one (l : SL) (hP : l.each (okI 8 SL.deepFrom)) : okI 8 SL.deepFrom l := by
  intro p c w hl hc
  have HC := Lib.hid (foldI_any 26 _ _ enters26 (fun h t e a ha => by
    have ht := SL.deepFrom_bd t 0 (Int.le_refl _); have he := SL.deepFrom_bd e 0 (Int.le_refl _)
    unfold dg; split <;> omega) stepDeep l p c 0 w hP hl (Int.le_refl _) (by omega))
  have HE : Hid (foldI (fun h t e a => dg h.kind t.len e.len (t.deepFrom 0) (e.deepFrom 0) a) l 0 = l.deepFrom 0) := Lib.hid (foldI_eq (fun _ => rfl) (fun _ _ _ _ _ _ _ _ _ => rfl) l 0)
  go_enter Try.func8, Try.ntmps8
  go_wp2_with (go_at_call 25; refine (HC.out).mono ?_; rintro en w' ⟨rfl, hb⟩)
  go_ret
  exact ⟨ret_int (by rw [HE.out]), by assumption⟩
theorem deep_any (l : SL) : okI 8 SL.deepFrom l := (SL.all deep_one l).1

theorem count_one (l : SL) (hP : l.each (okI 10 SL.cntFrom)) : okI 10 SL.cntFrom l := by
  intro p c w hl hc
  have HC := Lib.hid (foldI_any 28 _ _ enters28 (fun h t e a ha => by
    have ht := SL.cntFrom_eq t 0; have he := SL.cntFrom_eq e 0
    omega) stepCount l p c 0 w hP hl (Int.le_refl _) (by omega))
  have HE : Hid (foldI (fun _ t e a => a + 1 + t.cntFrom 0 + e.cntFrom 0) l 0 = l.cntFrom 0) := Lib.hid (foldI_eq (fun _ => rfl) (fun _ _ _ _ _ _ _ _ _ => rfl) l 0)
  go_enter Try.func10, Try.ntmps10
  go_wp2_with (go_at_call 25; refine (HC.out).mono ?_; rintro en w' ⟨rfl, hb⟩)
  go_ret
  exact ⟨ret_int (by rw [HE.out]), by assumption⟩
theorem count_any (l : SL) : okI 10 SL.cntFrom l := (SL.all count_one l).1

theorem loops_one (l : SL) (hP : l.each (okI 12 SL.loopFrom)) : okI 12 SL.loopFrom l := by
  intro p c w hl hc
  have HC := Lib.hid (foldI_any 29 _ _ enters29 (fun h t e a ha => by
    have ht := SL.loopFrom_bd t 0 (Int.le_refl _); have he := SL.loopFrom_bd e 0 (Int.le_refl _)
    split <;> omega) stepLoops l p c 0 w hP hl (Int.le_refl _) (by omega))
  have HE : Hid (foldI (fun h t e a => (if h.kind = 5 then a + 1 else a) + t.loopFrom 0 + e.loopFrom 0) l 0 = l.loopFrom 0) := Lib.hid (foldI_eq (fun _ => rfl) (fun _ _ _ _ _ _ _ _ _ => rfl) l 0)
  go_enter Try.func12, Try.ntmps12
  go_wp2_with (go_at_call 25; refine (HC.out).mono ?_; rintro en w' ⟨rfl, hb⟩)
  go_ret
  exact ⟨ret_int (by rw [HE.out]), by assumption⟩
theorem loops_any (l : SL) : okI 12 SL.loopFrom l := (SL.all loops_one l).1

end Go.Proofs.Ytpbjnjnmbglllaa
