/-
  DERIVED. The walk of the law's own weight of statements.
-/
import Derived.Test.YtjkgkigfmcegoaaDt
namespace Go.Proofs.Ytjkgkigfmcegoaa
open Go.RowKit Go.Sort

def hw (h : Hd) : Int := h.args.l.length + h.place.hops.l.length + h.value.path.hops.l.length + h.cond.left.path.hops.l.length + h.cond.right.path.hops.l.length
/-- The weight, from n on, of statements at a depth. -/
def wtGo : SL → Int → Int → Int
  | .nil, _, n => n
  | .cons h _ _ t _ _ e r, d, n => if n < 2000 then wtGo r d (n + hw h + (if 40 < d + 1 then 2000 else min (wtGo t (d + 1) t.len) 2000) + (if 40 < d + 1 then 2000 else min (wtGo e (d + 1) e.len) 2000)) else n
def wt (l : SL) (d : Int) : Int := if 40 < d then 2000 else min (wtGo l d l.len) 2000
theorem wtGo_cons (h : Hd) (tp : Option Addr) (tc : Nat) (t : SL) (ep : Option Addr) (ec : Nat) (e r : SL) (d n : Int) :
    wtGo (.cons h tp tc t ep ec e r) d n = if n < 2000 then wtGo r d (n + hw h + wt t (d + 1) + wt e (d + 1)) else n := rfl
theorem hw_nonneg (h : Hd) : 0 ≤ hw h := by unfold hw; omega
theorem wtGo_ge : ∀ (l : SL) (d n : Int), n ≤ wtGo l d n ∧ (0 ≤ n → 0 ≤ wt l d)
  | .nil, d, n => ⟨Int.le_refl _, fun _ => by unfold wt wtGo SL.len; split <;> omega⟩
  | .cons h tp tc t ep ec e r, d, n => by
    have ht := (wtGo_ge t (d + 1) 0).2 (Int.le_refl _)
    have he := (wtGo_ge e (d + 1) 0).2 (Int.le_refl _)
    have hh := hw_nonneg h
    have key : ∀ n, n ≤ wtGo (.cons h tp tc t ep ec e r) d n := fun n => by
      rw [wtGo_cons]; split
      · have := (wtGo_ge r d (n + hw h + wt t (d + 1) + wt e (d + 1))).1; omega
      · omega
    refine ⟨key n, fun _ => ?_⟩
    unfold wt; split
    · omega
    · have := key (SL.cons h tp tc t ep ec e r).len; omega
theorem wt_nonneg (l : SL) (d : Int) : 0 ≤ wt l d := (wtGo_ge l d 0).2 (Int.le_refl _)
theorem wt_le (l : SL) (d : Int) : wt l d ≤ 2000 := by unfold wt; split <;> omega

def wtOk (l : SL) : Prop := ∀ (p : Option Addr) (c : Nat) (d : Int) (w : World), 0 ≤ d → d ≤ 41 → sLies w p l →
      Calls Try.prog 18 #[.slice p l.len c, .int .i64 d] w fun e w' => e = .returned (.int .i64 (wt l d)) ∧ Below w.heap.size w w'

set_option maxHeartbeats 1600000 in
set_option maxRecDepth 100000 in
theorem weight_one (l : SL) (hP : l.each wtOk)
    (p : Option Addr) (c : Nat) (d : Int) (w : World) (hd0 : 0 ≤ d) (hd1 : d ≤ 41) (hl : sLies w p l) :
    Calls Try.prog 18 #[.slice p l.len c, .int .i64 d] w fun e w' => e = .returned (.int .i64 (wt l d)) ∧ Below w.heap.size w w' := by
  obtain ⟨hlen, hl⟩ := hl
  have hlen' : l.len ≤ 300000000000 := by omega
  clear hlen
  have HP := Lib.hid hP
  clear hP
  by_cases hd : 40 < d
  · have HE : Hid (wt l d = 2000) := Lib.hid (by unfold wt; rw [if_pos hd])
    go_enter Try.func18, Try.ntmps18
    go_wp2_with fail
    go_ret
    exact ⟨ret_int (by rw [HE.out]), Below.refl _ _⟩
  · have HE : Hid (wt l d = min (wtGo l d l.len) 2000) := Lib.hid (by unfold wt; rw [if_neg hd])
    go_enter Try.func18, Try.ntmps18
    go_wp2_with fail
    have hd2 : d ≤ 40 := by omega
    clear hd
    go_loopw [5, 6] (fun v i wr => ∃ (k : Nat) (rest : SL) (n : Int), i = .int .i64 k ∧ v = .int .i64 n ∧ k ≤ l.len ∧ 0 ≤ n ∧ n ≤ 40000000000000 ∧ Hid (k + rest.len = l.len) ∧ Hid (wtGo l d l.len = wtGo rest d n) ∧
        Hid (rest = .nil ∨ ∃ b o, p = some ⟨b, o, none⟩ ∧ lies w rest b (o + k * 48)) ∧ Hid (rest.each (wtOk)) ∧ Hid (Below w.heap.size w wr)) (fun _ i _ => l.len - (intOf i).toNat)
    case atStart => exact ⟨0, l, l.len, rfl, rfl, Nat.zero_le _, by omega, by omega, Lib.hid (Nat.zero_add _), Lib.hid rfl, Lib.hid (by simpa using hl), HP, Lib.hid (Below.refl _ _)⟩
    case round =>
      obtain ⟨k, rest, n, rfl, rfl, hk, hn0, hn1, HK, HG, HL, HQ, HB⟩ := hrel
      by_cases hnn : n < 2000
      · cases rest with
        | nil =>
          have hk' : l.len ≤ k := by have := HK.out; simp only [SL.len] at this; omega
          go_wp2_with fail
          go_ret
          exact ⟨ret_int (by rw [HE.out, HG.out]; unfold wtGo; omega), HB.out⟩
        | cons h tp tc t ep ec e r =>
          have hkl : k < l.len := by have := HK.out; simp only [SL.len] at this; omega
          have hr := HL.out
          obtain ⟨b, o, rfl, hrg, hhd, hts, hes, hrs⟩ : ∃ b o, p = some ⟨b, o, none⟩ ∧ w.rangeAt b (o + k * 48) (scells h tp t.len tc ep e.len ec) ∧ hdLies w h ∧ sLies w tp t ∧ sLies w ep e ∧ (r = .nil ∨ lies w r b (o + k * 48 + 48)) := by
            rcases hr with hr | ⟨b, o, hp, h1, h2, h3, h4, h5⟩
            · cases hr
            · exact ⟨b, o, hp, h1, h2, h3, h4, .inr h5⟩
          obtain ⟨hQt, hQe, hQr⟩ := HQ.out
          obtain ⟨cs, hcs⟩ : ∃ cs, cs = sarr h tp t.len tc ep e.len ec := ⟨_, rfl⟩
          have HRG : Hid (wr.rangeAt b (o + k * 48) cs.toList) := Lib.hid (by rw [hcs]; exact rangeAt_below hrg HB.out)
          have HSZ : Hid ((Try.prog.info? 93).map (·.size) = some cs.size) := Lib.hid (by rw [hcs]; exact size93)
          have HZ : Hid (48 = cs.size) := Lib.hid (by rw [hcs]; rfl)
          have HON : Hid (cs.all (·.oneCell') = true) := Lib.hid (by rw [hcs]; exact scells_one _ _ _ _ _ _ _)
          have c44 : cs[44]? = some (.slice h.args.p h.args.l.length h.args.cap) := by rw [hcs]; rfl
          have c4 : cs[4]? = some (.slice h.place.hops.p h.place.hops.l.length h.place.hops.cap) := by rw [hcs]; rfl
          have c9 : cs[9]? = some (.slice h.value.path.hops.p h.value.path.hops.l.length h.value.path.hops.cap) := by rw [hcs]; rfl
          have c23 : cs[23]? = some (.slice h.cond.left.path.hops.p h.cond.left.path.hops.l.length h.cond.left.path.hops.cap) := by rw [hcs]; rfl
          have c35 : cs[35]? = some (.slice h.cond.right.path.hops.p h.cond.right.path.hops.l.length h.cond.right.path.hops.cap) := by rw [hcs]; rfl
          have c45 : cs[45]? = some (.slice tp t.len tc) := by rw [hcs]; rfl
          have c46 : cs[46]? = some (.slice ep e.len ec) := by rw [hcs]; rfl
          clear hcs
          have b1 : h.args.l.length ≤ 6000000000000 := by have := hhd.2.2.2.2.1.1; omega
          have b2 : h.place.hops.l.length ≤ 6000000000000 := by have := hhd.1.1; omega
          have b3 : h.value.path.hops.l.length ≤ 6000000000000 := by have := hhd.2.1.1; omega
          have b4 : h.cond.left.path.hops.l.length ≤ 6000000000000 := by have := hhd.2.2.1.1; omega
          have b5 : h.cond.right.path.hops.l.length ≤ 6000000000000 := by have := hhd.2.2.2.1.1; omega
          have HHD := Lib.hid hhd
          have HTS := Lib.hid hts
          have HES := Lib.hid hes
          have HRS := Lib.hid hrs
          have HQT := Lib.hid hQt
          have HQE := Lib.hid hQe
          have HQR := Lib.hid hQr
          clear hhd hts hes hrs hQt hQe hQr hrg hr
          go_wp2_with (first | ((with_reducible show wpList _ _ _ (Oper.mk (some 25) _ _ _ _ _ :: _) _ _); refine wpList_load_arr rfl 93 (.tmp 24) rfl b (o + k * 48) rfl cs _ HRG.out Try.underlying93 rfl HSZ.out ?_) | ((with_reducible show wpList _ _ _ (Oper.mk none (Op.store _ _ _) _ _ _ _ :: _) _ _); refine wpList_store_new rfl 93 (.tmp 7) (.tmp 25) rfl _ cs rfl rfl HSZ.out HZ.out HON.out ?_))
          have k45 := cell_regrown (w := wr.alloc (.cells cs 93)) (a := ⟨wr.heap.size, 45, none⟩) ((World.cell?_alloc_at _ _ _ _ rfl).trans c45)
          have k46 := cell_regrown (w := wr.alloc (.cells cs 93)) (a := ⟨wr.heap.size, 46, none⟩) ((World.cell?_alloc_at _ _ _ _ rfl).trans c46)
          have hB1 : Below w.heap.size w (wr.alloc (.cells cs 93)) := HB.out.alloc HB.out.size _
          have cT : ∀ dd os, Calls Try.prog 18 #[.slice tp t.len tc, .int .i64 (d + 1)] (grow (redrawn (wr.alloc (.cells cs 93)) dd) os) fun e w'' => e = .returned (.int .i64 (wt t (d + 1))) ∧ ∃ p : Regrown, w'' = grow (redrawn (wr.alloc (.cells cs 93)) p.d) p.os :=
            fun dd os => Calls.regrown_of (HQT.out _ _ _ _ (by omega) (by omega) (sLies_below (sLies_below HTS.out hB1) (below_regrown _ _ _)))
          have cE : ∀ dd os, Calls Try.prog 18 #[.slice ep e.len ec, .int .i64 (d + 1)] (grow (redrawn (wr.alloc (.cells cs 93)) dd) os) fun e' w'' => e' = .returned (.int .i64 (wt e (d + 1))) ∧ ∃ p : Regrown, w'' = grow (redrawn (wr.alloc (.cells cs 93)) p.d) p.os :=
            fun dd os => Calls.regrown_of (HQE.out _ _ _ _ (by omega) (by omega) (sLies_below (sLies_below HES.out hB1) (below_regrown _ _ _)))
          have HBB := Lib.hid hB1
          clear hB1
          have t0 := wt_nonneg t (d + 1)
          have t1 := wt_le t (d + 1)
          have e0 := wt_nonneg e (d + 1)
          have e1 := wt_le e (d + 1)
          refine wp_region_quiet_below (by kernel_rfl) (by kernel_rfl) ?_
          repeat (go_big_quiet_step (first | (with_reducible exact cT _ _) | (with_reducible exact cE _ _)))
          refine wpQuiet_nil ?_
          intro _ hw'
          obtain ⟨⟨dq, osq⟩, hw''⟩ := hw'
          subst hw''
          have HB3 : Hid (Below w.heap.size w (grow (redrawn (wr.alloc (.cells cs 93)) dq) osq)) := Lib.hid (HBB.out.trans ((below_regrown _ dq osq).mono HBB.out.size))
          generalize grow (redrawn (wr.alloc (.cells cs 93)) dq) osq = w3 at HB3 ⊢
          go_wp2_with fail
          go_roundw
          case rel =>
            refine ⟨k + 1, r, n + hw h + wt t (d + 1) + wt e (d + 1), by go_num, ?_, by omega, by have := hw_nonneg h; omega, by unfold hw; omega, Lib.hid (by have := HK.out; simp only [SL.len] at this; omega), Lib.hid ?_, Lib.hid ?_, HQR, HB3⟩
            · congr 1; unfold hw; omega
            · rw [HG.out, wtGo_cons, if_pos hnn]
            · rcases HRS.out with hr | hr
              · exact .inl hr
              · exact .inr ⟨b, o, rfl, by rw [show o + (k + 1) * 48 = o + k * 48 + 48 by omega]; exact hr⟩
          case measure => simp [intOf]; omega
      · have HN : Hid (wtGo rest d n = n) := Lib.hid (by
          cases rest with
          | nil => rfl
          | cons => rw [wtGo_cons, if_neg hnn])
        go_wp2_with fail
        all_goals
          go_ret
          exact ⟨ret_int (by rw [HE.out, HG.out, HN.out]; omega), HB.out⟩
theorem weight_any (l : SL) (p : Option Addr) (c : Nat) (d : Int) (w : World) (hd0 : 0 ≤ d) (hd1 : d ≤ 41) (hl : sLies w p l) :
    Calls Try.prog 18 #[.slice p l.len c, .int .i64 d] w fun e w' => e = .returned (.int .i64 (wt l d)) ∧ Below w.heap.size w w' :=
  (SL.all (P := wtOk) (fun l h p c d w a b hl => weight_one l h p c d w a b hl) l).1 p c d w hd0 hd1 hl

end Go.Proofs.Ytjkgkigfmcegoaa
