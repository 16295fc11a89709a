/-
  The walks of the document's Count and Deep. The walks of the document's "may these be?": statements, declarations. The walks of the document's printed texts: blanks, paths, declarations. The walk of the document's Digits. The walk of the document's printed values, but for sums. The walk of the docum
-/
import Derived.Test.YtdlchhimkelinaaGreatDoorP10
import Derived.Lib.QuietBelow
import Derived.Test.YtdlchhimkelinaaGreatDoorP11
import Derived.Lib.SmallJoins
import Derived.Deep.RegionHeld3
import Derived.Laws.BytesArg
import Derived.IntWalk
import Derived.Test.YtdlchhimkelinaaGreatDoorP07
set_option maxHeartbeats 6400000
set_option maxRecDepth 100000
namespace Go.Proofs.YtdlchhimkelinaaGreatDoor
open Go.RowKit Go.Sort
theorem SL.len_nil {l : SL} : l.len = 0 ↔ l = .nil := by
 cases l with
 | nil => simp [SL.len]
 | cons => simp [SL.len]
/-- How many statements. -/
def SL.count : SL → Nat
 | .nil => 0
 | .cons _ _ _ t _ _ e r => 1 + t.count + e.count + r.count
def SL.cntFrom : SL → Int → Int
 | .nil, a => a
 | .cons _ _ _ t _ _ e r, a => r.cntFrom (a + 1 + t.cntFrom 0 + e.cntFrom 0)
theorem SL.cntFrom_eq : ∀ (l : SL) (a : Int), l.cntFrom a = a + l.count
 | .nil, a => by simp [SL.cntFrom, SL.count]
 | .cons _ _ _ t _ _ e r, a => by
  simp only [SL.cntFrom, SL.count]
  rw [SL.cntFrom_eq t, SL.cntFrom_eq e, SL.cntFrom_eq r]
  omega
/-- Does a statement count as one that has a list? -/
def hold (kind : Int) (tn en : Nat) : Bool := kind == 4 || kind == 5 || kind == 6 || decide (0 < tn) || decide (0 < en)
def blk (kind : Int) : Bool := kind == 4 || kind == 5 || kind == 6
def dg (kind : Int) (tn en : Nat) (dt de a : Int) : Int := if hold kind tn en = true then max (max a (1 + dt)) (1 + de) else a
def SL.deepFrom : SL → Int → Int
 | .nil, a => a
 | .cons h _ _ t _ _ e r, a => r.deepFrom (dg h.kind t.len e.len (t.deepFrom 0) (e.deepFrom 0) a)
theorem SL.deepFrom_bd : ∀ (l : SL) (a : Int), 0 ≤ a → a ≤ l.deepFrom a ∧ l.deepFrom a ≤ a + l.count
 | .nil, a, h => by simp [SL.deepFrom, SL.count]
 | .cons h tp tc t ep ec e r, a, h0 => by
  have ht := SL.deepFrom_bd t 0 (Int.le_refl _)
  have he := SL.deepFrom_bd e 0 (Int.le_refl _)
  simp only [SL.deepFrom, SL.count]
  have hd : a ≤ dg h.kind t.len e.len (t.deepFrom 0) (e.deepFrom 0) a ∧ dg h.kind t.len e.len (t.deepFrom 0) (e.deepFrom 0) a ≤ a + 1 + t.count + e.count := by unfold dg; split <;> omega
  have hr := SL.deepFrom_bd r _ (Int.le_trans h0 hd.1)
  omega
/-- The document's steps for depth. -/
theorem dg_ref (kind : Int) (t e : SL) (a : Int) (h0 : 0 ≤ a) :
  (if (blk kind || decide (0 < e.len)) = true then max (if (blk kind || decide (0 < t.len)) = true then max a (1 + t.deepFrom 0) else a) (1 + e.deepFrom 0) else (if (blk kind || decide (0 < t.len)) = true then max a (1 + t.deepFrom 0) else a))
   = dg kind t.len e.len (t.deepFrom 0) (e.deepFrom 0) a := by
 have ht := SL.deepFrom_bd t 0 (Int.le_refl _)
 have he := SL.deepFrom_bd e 0 (Int.le_refl _)
 unfold dg hold
 rw [show (kind == 4 || kind == 5 || kind == 6) = blk kind from rfl]
 cases blk kind
 ·by_cases h1 : 0 < t.len <;> by_cases h2 : 0 < e.len
  ·simp [h1, h2]
  ·have e0 : e = .nil := SL.len_nil.1 (by omega)
   subst e0
   simp [h1, SL.len, SL.deepFrom] at he ⊢
   omega
  ·have e0 : t = .nil := SL.len_nil.1 (by omega)
   subst e0
   simp [h2, SL.len, SL.deepFrom] at ht ⊢
   omega
  ·simp [h1, h2]
 ·simp
/-- What each is on lists within lists. -/
def okI (F : FuncId) (G : SL → Int → Int) (l : SL) : Prop := ∀ (p : Option Addr) (c : Nat) (w : World), sLies w p l → l.count ≤ 10000 →
 Calls Tryz.prog F #[.slice p l.len c] w fun e w' => e = .returned (.int .i64 (G l 0)) ∧ Below w.heap.size w w'
/-- The first of what is left of a list that lies in memory. -/
theorem lies_head {w : World} {p : Option Addr} {k : Nat} {h : Hd} {tp : Option Addr} {tc : Nat} {t : SL} {ep : Option Addr} {ec : Nat} {e r : SL}
  (hr : SL.cons h tp tc t ep ec e r = .nil ∨ ∃ b o, p = some ⟨b, o, none⟩ ∧ lies w (.cons h tp tc t ep ec e r) b (o + k * 48)) :
  ∃ b o, p = some ⟨b, o, none⟩ ∧ w.rangeAt b (o + k * 48) (scells h tp t.len tc ep e.len ec) ∧ hdLies w h ∧ sLies w tp t ∧ sLies w ep e ∧ (r = .nil ∨ ∃ b' o', (some ⟨b, o, none⟩ : Option Addr) = some ⟨b', o', none⟩ ∧ lies w r b' (o' + (k + 1) * 48)) := by
 rcases hr with hr | ⟨b, o, hp, h1, h2, h3, h4, h5⟩
 ·cases hr
 ·exact ⟨b, o, hp, h1, h2, h3, h4, .inr ⟨b, o, rfl, by rw [show o + (k + 1) * 48 = o + k * 48 + 48 by omega]; exact h5⟩⟩
theorem refCnt_one (l : SL) (hP : l.each (okI 67 SL.cntFrom)) : okI 67 SL.cntFrom l := by
 intro p c w hl hc
 obtain ⟨hlen, hl⟩ := hl
 have hlen' : l.len ≤ 300000000000 := by omega
 have HP := hdn hP
 have HCN := hdn hc
 clear hlen hP hc
 go_enter Tryz.func67, Tryz.ntmps67
 go_wp2_with fail
 go_loopw [3, 4] (fun v i wr => ∃ (k : Nat) (rest : SL) (n : Int), i = .int .i64 k ∧ v = .int .i64 n ∧ k ≤ l.len ∧ 0 ≤ n ∧ Hid (n + rest.count ≤ 10000) ∧ Hid (k + rest.len = l.len) ∧ Hid (SL.cntFrom l 0 = SL.cntFrom rest n) ∧
    Hid (rest = .nil ∨ ∃ b o, p = some ⟨b, o, none⟩ ∧ lies w rest b (o + k * 48)) ∧ Hid (rest.each (okI 67 SL.cntFrom)) ∧ Hid (Below w.heap.size w wr)) (fun _ i _ => l.len - (intOf i).toNat)
 case atStart => exact ⟨0, l, 0, rfl, rfl, Nat.zero_le _, Int.le_refl _, hdn (by have := HCN.out; omega), hdn (Nat.zero_add _), hdn rfl, hdn (by simpa using hl), HP, hdn (Below.refl _ _)⟩
 case round =>
  obtain ⟨k, rest, n, rfl, rfl, hk, hn0, HN, HK, HG, HL, HQ, HB⟩ := hrel
  cases rest with
  | nil =>
   have hk' : l.len ≤ k := by have := HK.out; simp only [SL.len] at this; omega
   go_wp2_with fail
   go_ret
   exact ⟨ret_int (by rw [HG.out]; rfl), HB.out⟩
  | cons h tp tc t ep ec e r =>
   have hkl : k < l.len := by have := HK.out; simp only [SL.len] at this; omega
   obtain ⟨b, o, rfl, hrg, hhd, hts, hes, hrs⟩ := lies_head HL.out
   obtain ⟨hQt, hQe, hQr⟩ := HQ.out
   have hnc := HN.out
   simp only [SL.count] at hnc
   have ht0 := SL.cntFrom_eq t 0
   have he0 := SL.cntFrom_eq e 0
   have ht1 : 0 ≤ t.cntFrom 0 := by omega
   have he1 : 0 ≤ e.cntFrom 0 := by omega
   have ht2 : n + 1 + t.cntFrom 0 + e.cntFrom 0 ≤ 10000 := by omega
   have ht3 : n + 1 + t.cntFrom 0 ≤ 10000 := by omega
   have HX := hdn ht0
   have HY := hdn he0
   clear ht0 he0
   have HQR := hdn hQr
   have HRS := hdn hrs
   have hrw := rangeAt_below hrg HB.out
   have htw := sLies_below hts HB.out
   have hew := sLies_below hes HB.out
   clear hrg hhd hts hes hrs
   have cT : ∀ dd os, Calls Tryz.prog 67 #[.slice tp t.len tc] (grow (redrawn wr dd) os) fun en w'' => en = .returned (.int .i64 (t.cntFrom 0)) ∧ ∃ p : Regrown, w'' = grow (redrawn wr p.d) p.os :=
    fun dd os => Calls.regrown_of (hQt _ _ _ (sLies_below htw (below_regrown _ _ _)) (by omega))
   have cE : ∀ dd os, Calls Tryz.prog 67 #[.slice ep e.len ec] (grow (redrawn wr dd) os) fun en w'' => en = .returned (.int .i64 (e.cntFrom 0)) ∧ ∃ p : Regrown, w'' = grow (redrawn wr p.d) p.os :=
    fun dd os => Calls.regrown_of (hQe _ _ _ (sLies_below hew (below_regrown _ _ _)) (by omega))
   have c45 := cell_at hrw 45 _ rfl
   have c46 := cell_at hrw 46 _ rfl
   have k45 := cell_regrown c45
   have k46 := cell_regrown c46
   clear hrw htw hew hQt hQe hQr hnc
   have hk0 : (0 : Int) ≤ (k : Int) := Int.natCast_nonneg _
   have hk1 : (k : Int) < (l.len : Int) := by omega
   go_wp2_with fail
   refine wp_region_quiet_below (by kernel_rfl) (by kernel_rfl) ?_
   repeat (go_big_quiet_step (first | (with_reducible exact cT _ _) | (with_reducible exact cE _ _)))
   refine wpQuiet_nil ?_
   intro _ hw'
   obtain ⟨⟨dq, osq⟩, hw''⟩ := hw'
   subst hw''
   have HB3 : Hid (Below w.heap.size w (grow (redrawn wr dq) osq)) := hdn (HB.out.trans ((below_regrown _ dq osq).mono HB.out.size))
   generalize grow (redrawn wr dq) osq = w3 at HB3 ⊢
   go_wp2_with fail
   go_roundw
   case rel =>
    exact ⟨k + 1, r, n + 1 + t.cntFrom 0 + e.cntFrom 0, by go_num, by simp, by omega, by omega, hdn (by have := HN.out; have := HX.out; have := HY.out; simp only [SL.count] at *; omega), hdn (by have := HK.out; simp only [SL.len] at this; omega), hdn (by rw [HG.out]; rfl), HRS, HQR, HB3⟩
   case measure => simp [intOf]; omega
theorem refCnt_any (l : SL) : okI 67 SL.cntFrom l := (SL.all refCnt_one l).1
theorem refDeep_one (l : SL) (hP : l.each (okI 66 SL.deepFrom)) : okI 66 SL.deepFrom l := by
 intro p c w hl hc
 obtain ⟨hlen, hl⟩ := hl
 have hlen' : l.len ≤ 300000000000 := by omega
 have HP := hdn hP
 have HCN := hdn hc
 clear hlen hP hc
 go_enter Tryz.func66, Tryz.ntmps66
 go_wp2_with fail
 go_loopw [3, 4] (fun v i wr => ∃ (k : Nat) (rest : SL) (n : Int), i = .int .i64 k ∧ v = .int .i64 n ∧ k ≤ l.len ∧ 0 ≤ n ∧ Hid (n + rest.count ≤ 10000) ∧ Hid (k + rest.len = l.len) ∧ Hid (SL.deepFrom l 0 = SL.deepFrom rest n) ∧
    Hid (rest = .nil ∨ ∃ b o, p = some ⟨b, o, none⟩ ∧ lies w rest b (o + k * 48)) ∧ Hid (rest.each (okI 66 SL.deepFrom)) ∧ Hid (Below w.heap.size w wr)) (fun _ i _ => l.len - (intOf i).toNat)
 case atStart => exact ⟨0, l, 0, rfl, rfl, Nat.zero_le _, Int.le_refl _, hdn (by have := HCN.out; omega), hdn (Nat.zero_add _), hdn rfl, hdn (by simpa using hl), HP, hdn (Below.refl _ _)⟩
 case round =>
  obtain ⟨k, rest, n, rfl, rfl, hk, hn0, HN, HK, HG, HL, HQ, HB⟩ := hrel
  cases rest with
  | nil =>
   have hk' : l.len ≤ k := by have := HK.out; simp only [SL.len] at this; omega
   go_wp2_with fail
   go_ret
   exact ⟨ret_int (by rw [HG.out]; rfl), HB.out⟩
  | cons h tp tc t ep ec e r =>
   have hkl : k < l.len := by have := HK.out; simp only [SL.len] at this; omega
   obtain ⟨b, o, rfl, hrg, hhd, hts, hes, hrs⟩ := lies_head HL.out
   obtain ⟨hQt, hQe, hQr⟩ := HQ.out
   have hnc := HN.out
   simp only [SL.count] at hnc
   have ht0 := SL.deepFrom_bd t 0 (Int.le_refl _)
   have he0 := SL.deepFrom_bd e 0 (Int.le_refl _)
   have ht1 : 0 ≤ t.deepFrom 0 := by omega
   have he1 : 0 ≤ e.deepFrom 0 := by omega
   have ht2 : t.deepFrom 0 ≤ 10000 := by omega
   have he2 : e.deepFrom 0 ≤ 10000 := by omega
   have HX := hdn ht0
   have HY := hdn he0
   have HDR := hdn (dg_ref h.kind t e n hn0)
   have HGS : Hid (SL.deepFrom l 0 = SL.deepFrom r (dg h.kind t.len e.len (t.deepFrom 0) (e.deepFrom 0) n)) := hdn (by rw [HG.out]; rfl)
   have HNX : Hid (0 ≤ dg h.kind t.len e.len (t.deepFrom 0) (e.deepFrom 0) n ∧ dg h.kind t.len e.len (t.deepFrom 0) (e.deepFrom 0) n + r.count ≤ 10000) := hdn (by unfold dg; split <;> omega)
   clear ht0 he0
   have HQR := hdn hQr
   have HRS := hdn hrs
   have hrw := rangeAt_below hrg HB.out
   have htw := sLies_below hts HB.out
   have hew := sLies_below hes HB.out
   clear hrg hhd hts hes hrs
   obtain ⟨cs, hcs⟩ : ∃ cs, cs = sarr h tp t.len tc ep e.len ec := ⟨_, rfl⟩
   have HRG : Hid (wr.rangeAt b (o + k * 48) cs.toList) := hdn (by rw [hcs]; exact hrw)
   have HSZ : Hid ((Tryz.prog.info? 54).map (·.size) = some cs.size) := hdn (by rw [hcs]; exact size57)
   have HZ : Hid (48 = cs.size) := hdn (by rw [hcs]; rfl)
   have HON : Hid (cs.all (·.oneCell') = true) := hdn (by rw [hcs]; exact scells_one _ _ _ _ _ _ _)
   have c0 : cs[0]? = some (.int .i64 h.kind) := by rw [hcs]; rfl
   have c45 : cs[45]? = some (.slice tp t.len tc) := by rw [hcs]; rfl
   have c46 : cs[46]? = some (.slice ep e.len ec) := by rw [hcs]; rfl
   clear hcs
   have HB1 : Hid (Below w.heap.size w (wr.alloc (.cells cs 54))) := hdn (HB.out.alloc HB.out.size _)
   have hb0 : Below wr.heap.size wr (wr.alloc (.cells cs 54)) := (Below.refl _ _).alloc (Nat.le_refl _) _
   have CT : ∀ w', Below (wr.alloc (.cells cs 54)).heap.size (wr.alloc (.cells cs 54)) w' → Hid (Calls Tryz.prog 66 #[.slice tp t.len tc] w' fun en w'' => en = .returned (.int .i64 (t.deepFrom 0)) ∧ Below w'.heap.size w' w'') :=
    fun w' hb => hdn (hQt _ _ _ (sLies_below (sLies_below htw hb0) hb) (by omega))
   have CE : ∀ w', Below (wr.alloc (.cells cs 54)).heap.size (wr.alloc (.cells cs 54)) w' → Hid (Calls Tryz.prog 66 #[.slice ep e.len ec] w' fun en w'' => en = .returned (.int .i64 (e.deepFrom 0)) ∧ Below w'.heap.size w' w'') :=
    fun w' hb => hdn (hQe _ _ _ (sLies_below (sLies_below hew hb0) hb) (by omega))
   have HCT := hdn CT
   have HCE := hdn CE
   have d46 : ∀ w', Below (wr.alloc (.cells cs 54)).heap.size (wr.alloc (.cells cs 54)) w' → w'.cell? ⟨wr.heap.size, 46, none⟩ = some (.slice ep e.len ec) := fun w' hb =>
    (hb.cell (p := ⟨wr.heap.size, 46, none⟩) (by simp)).trans ((World.cell?_alloc_at _ _ _ _ rfl).trans c46)
   have D46 := hdn d46
   clear CT CE hb0 d46
   generalize t.deepFrom 0 = dt at *
   generalize e.deepFrom 0 = de at *
   generalize h.kind = kind at *
   clear hrw htw hew hQt hQe hQr hnc
   have hcase : (blk kind = true ∧ (kind = 4 ∨ kind = 5 ∨ kind = 6)) ∨ (blk kind = false ∧ (kind == 4) = false ∧ (kind == 5) = false ∧ (kind == 6) = false) := by
    cases hb : blk kind
    ·right; unfold blk at hb; simp only [Bool.or_eq_false_iff] at hb; exact ⟨rfl, hb.1.1, hb.1.2, hb.2⟩
    ·left; unfold blk at hb; simp only [Bool.or_eq_true, beq_iff_eq] at hb; exact ⟨rfl, by omega⟩
   rcases hcase with ⟨hb, hk3⟩ | ⟨hb, n4, n5, n6⟩
   ·have HDG : Hid (dg kind t.len e.len dt de n = max (max n (1 + dt)) (1 + de)) := hdn (by rw [← HDR.out, hb]; rfl)
    clear hb HDR
    rcases hk3 with rfl | rfl | rfl
    all_goals
     go_wp2_with (first | ((with_reducible show wpList _ _ _ (Oper.mk (some 16) _ _ _ _ _ :: _) _ _); refine wpList_load_arr rfl 54 (.tmp 15) rfl b (o + k * 48) rfl cs _ HRG.out Tryz.underlying54 rfl HSZ.out ?_) | ((with_reducible show wpList _ _ _ (Oper.mk none (Op.store _ _ _) _ _ _ _ :: _) _ _); refine wpList_store_new rfl 54 (.tmp 5) (.tmp 16) rfl _ cs rfl rfl HSZ.out HZ.out HON.out ?_))
     refine ((HCT.out _ (Below.refl _ _)).out).mono ?_; rintro en w3 ⟨rfl, hb3⟩
     have e46 := D46.out w3 hb3
     have HB3 := hdn hb3
     clear hb3
     go_wp2_with fail
     all_goals
      refine ((HCE.out _ HB3.out).out).mono ?_; rintro en w4 ⟨rfl, hb4⟩
      have HB4 : Hid (Below w.heap.size w w4) := hdn ((HB1.out.trans (HB3.out.mono HB1.out.size)).trans (hb4.mono (Nat.le_trans HB1.out.size HB3.out.size)))
      clear hb4
      go_wp2_with fail
     all_goals
      go_roundw
      case rel =>
       exact ⟨k + 1, r, dg _ t.len e.len dt de n, by go_num, by congr 1; have := HDG.out; omega, by omega, HNX.out.1, hdn HNX.out.2, hdn (by have := HK.out; simp only [SL.len] at this; omega), HGS, HRS, HQR, HB4⟩
      case measure => simp [intOf]; omega
   ·by_cases hT : 0 < t.len
    ·have hT' : decide (0 < t.len) = true := by simpa using hT
     by_cases hE : 0 < e.len
     ·have hE' : decide (0 < e.len) = true := by simpa using hE
      have HDG : Hid (dg kind t.len e.len dt de n = max (max n (1 + dt)) (1 + de)) := hdn (by rw [← HDR.out, hb, hT', hE']; rfl)
      clear hb HDR
      go_wp2_with (first | ((with_reducible show wpList _ _ _ (Oper.mk (some 16) _ _ _ _ _ :: _) _ _); refine wpList_load_arr rfl 54 (.tmp 15) rfl b (o + k * 48) rfl cs _ HRG.out Tryz.underlying54 rfl HSZ.out ?_) | ((with_reducible show wpList _ _ _ (Oper.mk none (Op.store _ _ _) _ _ _ _ :: _) _ _); refine wpList_store_new rfl 54 (.tmp 5) (.tmp 16) rfl _ cs rfl rfl HSZ.out HZ.out HON.out ?_))
      refine ((HCT.out _ (Below.refl _ _)).out).mono ?_; rintro en w3 ⟨rfl, hb3⟩
      have e46 := D46.out w3 hb3
      have HB3 := hdn hb3
      clear hb3
      go_wp2_with fail
      all_goals
       refine ((HCE.out _ HB3.out).out).mono ?_; rintro en w4 ⟨rfl, hb4⟩
       have HB4 : Hid (Below w.heap.size w w4) := hdn ((HB1.out.trans (HB3.out.mono HB1.out.size)).trans (hb4.mono (Nat.le_trans HB1.out.size HB3.out.size)))
       clear hb4
       go_wp2_with fail
      all_goals
       go_roundw
       case rel =>
        exact ⟨k + 1, r, dg kind t.len e.len dt de n, by go_num, by congr 1; have := HDG.out; omega, by omega, HNX.out.1, hdn HNX.out.2, hdn (by have := HK.out; simp only [SL.len] at this; omega), HGS, HRS, HQR, HB4⟩
       case measure => simp [intOf]; omega
     ·have hE' : decide (0 < e.len) = false := by simpa using hE
      have HDG : Hid (dg kind t.len e.len dt de n = max n (1 + dt)) := hdn (by rw [← HDR.out, hb, hT', hE']; rfl)
      clear hb HDR hE
      go_wp2_with (first | ((with_reducible show wpList _ _ _ (Oper.mk (some 16) _ _ _ _ _ :: _) _ _); refine wpList_load_arr rfl 54 (.tmp 15) rfl b (o + k * 48) rfl cs _ HRG.out Tryz.underlying54 rfl HSZ.out ?_) | ((with_reducible show wpList _ _ _ (Oper.mk none (Op.store _ _ _) _ _ _ _ :: _) _ _); refine wpList_store_new rfl 54 (.tmp 5) (.tmp 16) rfl _ cs rfl rfl HSZ.out HZ.out HON.out ?_))
      refine ((HCT.out _ (Below.refl _ _)).out).mono ?_; rintro en w3 ⟨rfl, hb3⟩
      have e46 := D46.out w3 hb3
      have HB3 := hdn hb3
      clear hb3
      go_wp2_with fail
      all_goals
       go_roundw
       case rel =>
        exact ⟨k + 1, r, dg kind t.len e.len dt de n, by go_num, by congr 1; have := HDG.out; omega, by omega, HNX.out.1, hdn HNX.out.2, hdn (by have := HK.out; simp only [SL.len] at this; omega), HGS, HRS, HQR, hdn (HB1.out.trans (HB3.out.mono HB1.out.size))⟩
       case measure => simp [intOf]; omega
    ·have hT' : decide (0 < t.len) = false := by simpa using hT
     by_cases hE : 0 < e.len
     ·have hE' : decide (0 < e.len) = true := by simpa using hE
      have HDG : Hid (dg kind t.len e.len dt de n = max n (1 + de)) := hdn (by rw [← HDR.out, hb, hT', hE']; rfl)
      clear hb HDR hT
      go_wp2_with (first | ((with_reducible show wpList _ _ _ (Oper.mk (some 16) _ _ _ _ _ :: _) _ _); refine wpList_load_arr rfl 54 (.tmp 15) rfl b (o + k * 48) rfl cs _ HRG.out Tryz.underlying54 rfl HSZ.out ?_) | ((with_reducible show wpList _ _ _ (Oper.mk none (Op.store _ _ _) _ _ _ _ :: _) _ _); refine wpList_store_new rfl 54 (.tmp 5) (.tmp 16) rfl _ cs rfl rfl HSZ.out HZ.out HON.out ?_))
      refine ((HCE.out _ (Below.refl _ _)).out).mono ?_; rintro en w4 ⟨rfl, hb4⟩
      have HB4 : Hid (Below w.heap.size w w4) := hdn (HB1.out.trans (hb4.mono HB1.out.size))
      clear hb4
      go_wp2_with fail
      all_goals
       go_roundw
       case rel =>
        exact ⟨k + 1, r, dg kind t.len e.len dt de n, by go_num, by congr 1; have := HDG.out; omega, by omega, HNX.out.1, hdn HNX.out.2, hdn (by have := HK.out; simp only [SL.len] at this; omega), HGS, HRS, HQR, HB4⟩
       case measure => simp [intOf]; omega
     ·have hE' : decide (0 < e.len) = false := by simpa using hE
      have HDG : Hid (dg kind t.len e.len dt de n = n) := hdn (by rw [← HDR.out, hb, hT', hE']; rfl)
      clear hb HDR hT hE
      go_wp2_with (first | ((with_reducible show wpList _ _ _ (Oper.mk (some 16) _ _ _ _ _ :: _) _ _); refine wpList_load_arr rfl 54 (.tmp 15) rfl b (o + k * 48) rfl cs _ HRG.out Tryz.underlying54 rfl HSZ.out ?_) | ((with_reducible show wpList _ _ _ (Oper.mk none (Op.store _ _ _) _ _ _ _ :: _) _ _); refine wpList_store_new rfl 54 (.tmp 5) (.tmp 16) rfl _ cs rfl rfl HSZ.out HZ.out HON.out ?_))
      all_goals
       go_roundw
       case rel =>
        exact ⟨k + 1, r, dg kind t.len e.len dt de n, by go_num, by congr 1; have := HDG.out; omega, by omega, HNX.out.1, hdn HNX.out.2, hdn (by have := HK.out; simp only [SL.len] at this; omega), HGS, HRS, HQR, HB1⟩
       case measure => simp [intOf]; omega
theorem refDeep_any (l : SL) : okI 66 SL.deepFrom l := (SL.all refDeep_one l).1
end Go.Proofs.YtdlchhimkelinaaGreatDoor
namespace Go.Proofs.YtdlchhimkelinaaGreatDoor
open Go.RowKit Go.Sort
/-- What the document's list is on lists within lists. -/
def okMay (l : SL) : Prop := ∀ (p : Option Addr) (c : Nat) (w : World), sLies w p l → Pn.okList l = true →
 Calls Tryz.prog 65 #[.slice p l.len c] w fun e w' => e = .returned (.bool true) ∧ Below w.heap.size w w'
theorem hd_lies {w : World} {p : Option Addr} {k : Nat} {h : Hd} {tp : Option Addr} {tc : Nat} {t : SL} {ep : Option Addr} {ec : Nat} {e r : SL}
  (hr : SL.cons h tp tc t ep ec e r = .nil ∨ ∃ b o, p = some ⟨b, o, none⟩ ∧ lies w (.cons h tp tc t ep ec e r) b (o + k * 48)) : hdLies w h ∧ sLies w tp t ∧ sLies w ep e := by
 obtain ⟨b, o, _, _, h1, h2, h3, _⟩ := lies_head hr
 exact ⟨h1, h2, h3⟩
theorem may_one (l : SL) (hP : l.each okMay) : okMay l := by
 intro p c w hl ho
 obtain ⟨hlen, hl⟩ := hl
 have hlen' : l.len ≤ 300000000000 := by omega
 have HP := hdn hP
 have HO0 := hdn ho
 clear hlen hP ho
 go_enter Tryz.func65, Tryz.ntmps65
 go_wp2_with fail
 go_loopw [3] (fun i wr => ∃ (k : Nat) (rest : SL), i = .int .i64 k ∧ k ≤ l.len ∧ Hid (k + rest.len = l.len) ∧ Hid (Pn.okList rest = true) ∧
    Hid (rest = .nil ∨ ∃ b o, p = some ⟨b, o, none⟩ ∧ lies w rest b (o + k * 48)) ∧ Hid (rest.each okMay) ∧ Hid (Below w.heap.size w wr)) (fun i _ => l.len - (intOf i).toNat)
 case atStart => exact ⟨0, l, rfl, Nat.zero_le _, hdn (Nat.zero_add _), HO0, hdn (by simpa using hl), HP, hdn (Below.refl _ _)⟩
 case round =>
  obtain ⟨k, rest, rfl, hk, HK, HO, HL, HQ, HB⟩ := hrel
  cases rest with
  | nil =>
   have hk' : l.len ≤ k := by have := HK.out; simp only [SL.len] at this; omega
   go_wp2_with fail
   go_ret
   exact ⟨rfl, HB.out⟩
  | cons h tp tc t ep ec e r =>
   have hkl : k < l.len := by have := HK.out; simp only [SL.len] at this; omega
   have ho := HO.out
   simp only [Pn.okList, Bool.and_eq_true] at ho
   obtain ⟨⟨⟨o1, o2⟩, o3⟩, o4⟩ := ho
   have HL3 := hdn (hd_lies HL.out)
   obtain ⟨b, o, rfl, hrg, hhd, hts, hes, hrs⟩ := lies_head HL.out
   obtain ⟨hQt, hQe, hQr⟩ := HQ.out
   have HQR := hdn hQr
   have HRS := hdn hrs
   have HO4 := hdn o4
   obtain ⟨cx, hcx⟩ : ∃ cx, cx = (It.cells ⟨h, tp, tc, t, ep, ec, e⟩).toArray := ⟨_, rfl⟩
   have HRG : Hid (∀ w', Below wr.heap.size wr w' → w'.rangeAt b (o + k * 48) cx.toList) := hdn (fun w' hb => by rw [hcx]; exact rangeAt_below (rangeAt_below hrg HB.out) hb)
   have HSZ : Hid ((Tryz.prog.info? 54).map (·.size) = some cx.size) := hdn (by rw [hcx]; exact size57)
   have HC : Hid (∀ w', Below wr.heap.size wr w' → w'.cell? ⟨b, o + k * 48 + 45, none⟩ = some (.slice tp t.len tc) ∧ w'.cell? ⟨b, o + k * 48 + 46, none⟩ = some (.slice ep e.len ec)) :=
    hdn (fun w' hb => ⟨cell_at (rangeAt_below (rangeAt_below hrg HB.out) hb) 45 _ rfl, cell_at (rangeAt_below (rangeAt_below hrg HB.out) hb) 46 _ rfl⟩)
   have CS : Hid (Calls Tryz.prog 107 #[.agg cx] wr fun e w' => e = .returned (.bool true) ∧ Below wr.heap.size wr w') :=
    hdn (stmt_may ⟨h, tp, tc, t, ep, ec, e⟩ cx hcx wr ⟨hdLies_below HL3.out.1 HB.out, sLies_below HL3.out.2.1 HB.out, sLies_below HL3.out.2.2 HB.out⟩ o1)
   have CT : Hid (∀ w', Below wr.heap.size wr w' → Calls Tryz.prog 65 #[.slice tp t.len tc] w' fun e w'' => e = .returned (.bool true) ∧ Below w'.heap.size w' w'') :=
    hdn (fun w' hb => hQt _ _ _ (sLies_below (sLies_below HL3.out.2.1 HB.out) hb) o2)
   have CE : Hid (∀ w', Below wr.heap.size wr w' → Calls Tryz.prog 65 #[.slice ep e.len ec] w' fun e w'' => e = .returned (.bool true) ∧ Below w'.heap.size w' w'') :=
    hdn (fun w' hb => hQe _ _ _ (sLies_below (sLies_below HL3.out.2.2 HB.out) hb) o3)
   clear hrg hhd hts hes hrs hcx o1 o2 o3 o4 hQt hQe hQr HO HQ
   have hk0 : (0 : Int) ≤ (k : Int) := Int.natCast_nonneg _
   have hk1 : (k : Int) < (l.len : Int) := by omega
   go_wp2_with (first | ((with_reducible show wpList _ _ _ (Oper.mk (some 13) (Op.load 54 _) _ _ _ _ :: _) _ _); refine wpList_load_arr rfl 54 (.tmp 12) rfl b (o + k * 48) rfl cx _ (HRG.out _ (Below.refl _ _)) Tryz.underlying54 rfl HSZ.out ?_) | (go_at_call 107; refine CS.out.mono ?_; rintro e1 w1 ⟨rfl, hb⟩; have HB1 := hdn hb; have c45 := (HC.out w1 hb).1; clear hb) | (go_at_call 65; (with_reducible refine (CT.out _ HB1.out).mono ?_); rintro e1 w2 ⟨rfl, hb⟩; have HB2 := hdn (HB1.out.trans (hb.mono HB1.out.size)); have c46 := (HC.out w2 HB2.out).2; clear hb) | (go_at_call 65; (with_reducible refine (CE.out _ HB2.out).mono ?_); rintro e1 w3 ⟨rfl, hb⟩; have HB3 := hdn (HB2.out.trans (hb.mono HB2.out.size)); clear hb))
   go_roundw
   case rel => exact ⟨k + 1, r, by go_num, by omega, hdn (by have := HK.out; simp only [SL.len] at this; omega), HO4, HRS, HQR, hdn (HB.out.trans (HB3.out.mono HB.out.size))⟩
   case measure => simp [intOf]; omega
theorem may_list (l : SL) : okMay l := (SL.all may_one l).1
/-- Declarations that may be (fields: pointers alone). -/
theorem may_decls (l : List Dc) (pt : Bool) (p : Option Addr) (c : Nat) (w : World) (h1 : Lay 3 Dc.cells triv w p l) (ho : l.all Pn.okDecl = true) (hf : pt = true → l.all Pn.okField = true) :
  Calls Tryz.prog 64 #[.slice p l.length c, .bool pt] w fun e w' => e = .returned (.bool true) ∧ Below w.heap.size w w' := by
 obtain ⟨hl, h1⟩ := h1
 have H1 := hdn h1; have HO := hdn ho; have HF := hdn hf
 clear h1 ho hf
 go_enter Tryz.func64, Tryz.ntmps64
 go_wp2_with fail
 go_loopw [5] (fun i wr => ∃ n : Nat, n ≤ l.length ∧ i = .int .i64 n ∧ Hid (Below w.heap.size w wr)) (fun i _ => l.length - (intOf i).toNat)
 case atStart => exact ⟨0, Nat.zero_le _, rfl, hdn (Below.refl _ _)⟩
 case round =>
  obtain ⟨n, hn, rfl, HB⟩ := hrel
  by_cases hnl : n < l.length
  ·obtain ⟨b1, o1, rfl, hx⟩ : ∃ b o, p = some ⟨b, o, none⟩ ∧ ∀ k x, l[k]? = some x → w.rangeAt b (o + k * 3) (Dc.cells x) ∧ triv w x := by
    rcases H1.out with h | h
    ·rw [h] at hnl; simp at hnl
    ·exact h
   have hxn := (hx n l[n] (List.getElem?_eq_getElem hnl)).1
   have hok := List.all_eq_true.1 HO.out l[n] (List.getElem_mem hnl)
   have hof : pt = true → Pn.okField l[n] = true := fun h => List.all_eq_true.1 (HF.out h) l[n] (List.getElem_mem hnl)
   generalize l[n] = x at hxn hok hof
   have HC : Hid (∀ w', Below wr.heap.size wr w' → w'.cell? ⟨b1, o1 + n * 3, none⟩ = some (.string x.type) ∧ w'.cell? ⟨b1, o1 + n * 3 + 1, none⟩ = some (.string x.name)) :=
    hdn (fun w' hb => ⟨by simpa using cell_at (rangeAt_below (rangeAt_below hxn HB.out) hb) 0 _ rfl, cell_at (rangeAt_below (rangeAt_below hxn HB.out) hb) 1 _ rfl⟩)
   have c1 := (HC.out wr (Below.refl _ _)).2
   have hn0 : (0 : Int) ≤ (n : Int) := Int.natCast_nonneg _
   have hn1 : (n : Int) < (l.length : Int) := by omega
   unfold Pn.okDecl at hok
   simp only [Bool.and_eq_true, Bool.or_eq_true, decide_eq_true_eq] at hok
   obtain ⟨hnm, hty⟩ := hok
   have HNM := hdn hnm
   by_cases ht : Pn.txt x.type = []
   ·have hpt : pt = false := by
     cases hq : pt with
     | false => rfl
     | true =>
      have := hof hq
      unfold Pn.okField at this
      rw [decide_eq_true ht, Bool.not_true, Bool.and_false] at this
      cases this
    have he := e_txt ht
    have he' : (x.type.toList != []) = false := by rw [bne, he]; rfl
    have HE := hdn he; have HE' := hdn he'
    subst hpt
    clear hx hxn hnm hty hof ht he he'
    go_wp2_with (first | (go_at_call 63; (with_reducible refine (names_any x.name _ _ HNM.out (by simp [go_sem])).mono ?_); rintro e w1 ⟨rfl, hb0⟩; have hb := below_new hb0; have HB1 := hdn hb; have c0 := (HC.out w1 hb).1; have he := HE.out; have he' := HE'.out; clear hb hb0))
    go_roundw
    case rel => exact ⟨n + 1, by omega, by go_num, hdn (HB.out.trans (HB1.out.mono HB.out.size))⟩
    case measure => simp [intOf]; omega
   ·have HTY := hdn (hty.resolve_left ht)
    have he := okN_ne HTY.out
    have he' : (x.type.toList != []) = true := by rw [bne, he]; rfl
    have HE := hdn he; have HE' := hdn he'
    clear hx hxn hnm hty hof ht he he'
    go_wp2_with (first | (go_at_call 63; (with_reducible refine (names_any x.name _ _ HNM.out (by simp [go_sem])).mono ?_); rintro e w1 ⟨rfl, hb0⟩; have hb := below_new hb0; have HB1 := hdn hb; have c0 := (HC.out w1 hb).1; have he := HE.out; have he' := HE'.out; clear hb hb0) | (go_at_call 63; (with_reducible refine (names_any x.type _ _ HTY.out (by simp [go_sem])).mono ?_); rintro e w2 ⟨rfl, hb0⟩; have hb := below_new hb0; have HB2 := hdn (HB1.out.trans (hb.mono HB1.out.size)); clear hb hb0))
    go_roundw
    case rel => exact ⟨n + 1, by omega, by go_num, hdn (HB.out.trans (HB2.out.mono HB.out.size))⟩
    case measure => simp [intOf]; omega
  ·obtain rfl : n = l.length := by omega
   go_wp2_with fail
   go_ret
   exact ⟨rfl, HB.out⟩
end Go.Proofs.YtdlchhimkelinaaGreatDoor
namespace Go.Proofs.YtdlchhimkelinaaGreatDoor
open Go.RowKit Go.Sort
/-- A text of these bytes. -/
def bt (l : List UInt8) : ByteArray := ⟨l.toArray⟩
theorem bt_list (l : List UInt8) : (bt l).data.toList = l := rfl
theorem bt_size (l : List UInt8) : (bt l).size = l.length := rfl
theorem bt_txt (x : ByteArray) : bt (Pn.txt x) = x := Lib.mk_data x
theorem bt_app (a b : List UInt8) : bt a ++ bt b = bt (a ++ b) := by
 have : (bt a ++ bt b).data.toList = a ++ b := by simp [bt]
 rw [← Lib.mk_data (bt a ++ bt b), this]; rfl
theorem ret_text {a b : ByteArray} (h : a = b) : Ending.returned (.string a) = .returned (.string b) := by rw [h]
theorem pad_len : ∀ d, (Pn.pad d).length = 2 * d
 | 0 => rfl
 | d + 1 => by simp only [Pn.pad, List.length_append, List.length_cons, List.length_nil, pad_len d]; omega
theorem pad_snoc (d : Nat) : Pn.pad (d + 1) = Pn.pad d ++ [32, 32] := rfl
/-- Texts of the same bytes are the same. -/
theorem ba_ext {a b : ByteArray} (h : a.data.toList = b.data.toList) : a = b := by rw [← Lib.mk_data a, h, Lib.mk_data]
theorem pad_any (d : Nat) (w : World) (hd : d ≤ 1000) : Calls Tryz.prog 68 #[.int .i64 (d : Int)] w fun e w' => e = .returned (.string (bt (Pn.pad d))) ∧ w = w' := by
 go_enter Tryz.func68, Tryz.ntmps68
 go_wp2_with fail
 go_loop [3, 4] (fun v i => ∃ (k : Nat) (t : ByteArray), k ≤ d ∧ i = .int .i64 k ∧ v = .string t ∧ Hid (t = bt (Pn.pad k))) (fun _ i => d - (intOf i).toNat)
 case atStart => exact ⟨0, _, Nat.zero_le _, rfl, rfl, hdn rfl⟩
 case round =>
  obtain ⟨k, t, hk, rfl, rfl, HT⟩ := hrel
  have ht : t.size ≤ 2000 := by rw [HT.out, bt_size, pad_len]; omega
  by_cases hlt : k < d
  ·have hc : (k : Int) < (d : Int) := by omega
   go_wp2_with fail
   go_round
   case rel => exact ⟨k + 1, _, by omega, by go_num, rfl, hdn (by rw [HT.out, pad_snoc]; exact bt_app _ [32, 32])⟩
   case measure => simp [intOf]; omega
  ·obtain rfl : k = d := by omega
   have hc : ¬ ((k : Int) < (k : Int)) := by omega
   go_wp2_with fail
   go_ret
   exact ⟨ret_text HT.out, rfl⟩
namespace Pn
theorem hopsT_snoc : ∀ (l : List Hp) (h : Hp), hopsT (l ++ [h]) = hopsT l ++ [45, 62] ++ txt h.name
 | [], h => by simp [hopsT]
 | x :: l, h => by simp only [List.cons_append, hopsT, hopsT_snoc l h, List.append_assoc, List.cons_append]
theorem hopsT_len : ∀ l : List Hp, (∀ h ∈ l, okN h.name = true) → (hopsT l).length ≤ 18 * l.length
 | [], _ => by simp [hopsT]
 | x :: l, h => by
  have h1 := (okN_nameB (h x (by simp))).1
  have h2 := hopsT_len l (fun y hy => h y (by simp [hy]))
  simp only [hopsT, txt, List.length_cons, List.length_append, List.length_nil, Tx.len_eq]
  omega
end Pn
theorem pathT_any (x : Pth) (w : World) (hp : pthLies w x) (ho : Pn.okPath x = true) :
  Calls Tryz.prog 69 #[.agg #[.string x.name, .int .i64 x.pos, .slice x.hops.p x.hops.l.length x.hops.cap]] w fun e w' => e = .returned (.string (bt (Pn.pathT x))) ∧ Below w.heap.size w w' := by
 unfold Pn.okPath at ho
 simp only [Bool.and_eq_true, decide_eq_true_eq, List.all_eq_true] at ho
 obtain ⟨⟨h1, h8⟩, h2⟩ := ho
 obtain ⟨hl, hp⟩ := Lay.of_sl hp (by decide)
 have H1 := hdn h1; have H2 := hdn h2; have HP := hdn hp
 have HT : Hid (bt (Pn.pathT x) = bt (Pn.txt x.name ++ Pn.hopsT x.hops.l)) := hdn rfl
 rw [HT.out]
 clear h1 h2 hp hl HT
 generalize x.hops.p = p at *
 generalize x.hops.l = l at *
 generalize x.hops.cap = c at *
 generalize x.name = nx at *
 generalize x.pos = ax at *
 obtain ⟨wA, hwA⟩ : ∃ wA : World, wA = w.alloc (.cells #[.string nx, .int .i64 ax, .slice p l.length c] 45) := ⟨_, rfl⟩
 have HBA : Hid (Below w.heap.size w wA) := hdn (by rw [hwA]; exact (Below.refl _ _).alloc (Nat.le_refl _) _)
 have HK : Hid (Bk wA w.heap.size 45 #[.string nx, .int .i64 ax, .slice p l.length c]) := hdn (by rw [hwA]; exact heap_alloc_new _ _)
 go_enter Tryz.func69, Tryz.ntmps69
 go_upto_region 1 with fail
 rw [← hwA]
 clear hwA
 obtain ⟨A, hA⟩ : ∃ A, A = w.heap.size := ⟨_, rfl⟩
 rw [← hA] at HK ⊢
 clear hA
 have c0 : wA.cell? ⟨A, 0, none⟩ = some (.string nx) := HK.out.cell 0
 have c2 : wA.cell? ⟨A, 2, none⟩ = some (.slice p l.length c) := HK.out.cell 2
 go_wp2_with fail
 clear c0
 go_loop [3, 4] (fun v i => ∃ (k : Nat) (t : ByteArray), k ≤ l.length ∧ i = .int .i64 k ∧ v = .string t ∧ Hid (t = bt (Pn.txt nx ++ Pn.hopsT (l.take k)))) (fun _ i => l.length - (intOf i).toNat)
 case atStart => exact ⟨0, _, Nat.zero_le _, rfl, rfl, hdn (by rw [List.take_zero]; simp only [Pn.hopsT, List.append_nil, bt_txt])⟩
 case round =>
  obtain ⟨k, t, hk, rfl, rfl, HT⟩ := hrel
  have ht : t.size ≤ 200 := by
   have h3 := Pn.hopsT_len (l.take k) (fun h hh => H2.out h (List.mem_of_mem_take hh))
   have h4 := (Pn.okN_nameB H1.out).1
   have h5 : (Pn.txt nx).length = nx.size := Tx.len_eq _
   have h6 : (l.take k).length ≤ 8 := by rw [List.length_take]; omega
   rw [HT.out, bt_size, List.length_append]; omega
  by_cases hkl : k < l.length
  ·obtain ⟨b1, o1, rfl, hx⟩ : ∃ b o, p = some ⟨b, o, none⟩ ∧ ∀ k x, l[k]? = some x → w.rangeAt b (o + k * 2) (Hp.cells x) ∧ triv w x := by
    rcases HP.out with h | h
    ·rw [h] at hkl; simp at hkl
    ·exact h
   have cx := cell_at (rangeAt_below (hx k l[k] (List.getElem?_eq_getElem hkl)).1 HBA.out) 0 _ rfl
   rw [Nat.add_zero] at cx
   have hs := (Pn.okN_nameB (H2.out l[k] (List.getElem_mem hkl))).1
   have e : l.take (k + 1) = l.take k ++ [l[k]] := (List.take_append_getElem hkl).symm
   have HE : Hid (Pn.txt nx ++ Pn.hopsT (l.take (k + 1)) = Pn.txt nx ++ Pn.hopsT (l.take k) ++ [45, 62] ++ Pn.txt l[k].name) := hdn (by rw [e, Pn.hopsT_snoc]; simp only [List.append_assoc])
   generalize l[k].name = nk at cx hs HE
   clear hx e
   have hk0 : (0 : Int) ≤ (k : Int) := Int.natCast_nonneg _
   have hk1 : (k : Int) < (l.length : Int) := by omega
   go_wp2_with fail
   go_round
   case rel => exact ⟨k + 1, _, by omega, by go_num, rfl, hdn (by rw [HE.out, HT.out, ← bt_app _ (Pn.txt nk), ← bt_app _ [45, 62], bt_txt]; rfl)⟩
   case measure => simp [intOf]; omega
  ·obtain rfl : k = l.length := by omega
   have hc : ¬ ((l.length : Int) < (l.length : Int)) := by omega
   go_wp2_with fail
   go_ret
   exact ⟨ret_text (by rw [HT.out, List.take_length]), HBA.out⟩
theorem decl_len {x : Dc} (h : Pn.okDecl x = true) : (Pn.declT x).length ≤ 40 := by
 unfold Pn.okDecl at h
 simp only [Bool.and_eq_true, Bool.or_eq_true, decide_eq_true_eq] at h
 have h1 := (Pn.okN_nameB h.1).1
 have e1 : (Pn.txt x.name).length = x.name.size := Tx.len_eq _
 unfold Pn.declT
 split
 ·simp only [Pn.tInt, List.length_append, List.length_cons, List.length_nil]; omega
 ·rename_i hn
  have h2 := (Pn.okN_nameB (h.2.resolve_left hn)).1
  have e2 : (Pn.txt x.type).length = x.type.size := Tx.len_eq _
  simp only [List.length_append, List.length_cons, List.length_nil]; omega
theorem declT_any (x : Dc) (w : World) (ho : Pn.okDecl x = true) :
  Calls Tryz.prog 32 #[.agg #[.string x.type, .string x.name, .int .i64 x.pos]] w fun e w' => e = .returned (.string (bt (Pn.declT x))) ∧ Below w.heap.size w w' := by
 unfold Pn.okDecl at ho
 simp only [Bool.and_eq_true, Bool.or_eq_true, decide_eq_true_eq] at ho
 obtain ⟨hn, ht⟩ := ho
 have s1 := (Pn.okN_nameB hn).1
 unfold Pn.declT
 obtain ⟨wA, hwA⟩ : ∃ wA : World, wA = w.alloc (.cells #[.string x.type, .string x.name, .int .i64 x.pos] 77) := ⟨_, rfl⟩
 have HBA : Hid (Below w.heap.size w wA) := hdn (by rw [hwA]; exact (Below.refl _ _).alloc (Nat.le_refl _) _)
 have HK : Hid (Bk wA w.heap.size 77 #[.string x.type, .string x.name, .int .i64 x.pos]) := hdn (by rw [hwA]; exact heap_alloc_new _ _)
 by_cases h0 : Pn.txt x.type = []
 ·rw [if_pos h0]
  have he := hdn (e_txt h0)
  clear h0 ht hn
  go_enter Tryz.func32, Tryz.ntmps32
  go_upto_region 1 with fail
  rw [← hwA]
  clear hwA
  obtain ⟨A, hA⟩ : ∃ A, A = w.heap.size := ⟨_, rfl⟩
  rw [← hA] at HK ⊢
  clear hA
  have c0 : wA.cell? ⟨A, 0, none⟩ = some (.string x.type) := HK.out.cell 0
  have c1 : wA.cell? ⟨A, 1, none⟩ = some (.string x.name) := HK.out.cell 1
  have he' := he.out
  go_wp2_with fail
  go_ret
  exact ⟨ret_text (ba_ext (by simp [bt, Pn.txt, Pn.tInt])), HBA.out⟩
 ·rw [if_neg h0]
  have ht := ht.resolve_left h0
  have s2 := (Pn.okN_nameB ht).1
  have he := hdn (okN_ne ht)
  clear h0 ht hn
  go_enter Tryz.func32, Tryz.ntmps32
  go_upto_region 1 with fail
  rw [← hwA]
  clear hwA
  obtain ⟨A, hA⟩ : ∃ A, A = w.heap.size := ⟨_, rfl⟩
  rw [← hA] at HK ⊢
  clear hA
  have c0 : wA.cell? ⟨A, 0, none⟩ = some (.string x.type) := HK.out.cell 0
  have c1 : wA.cell? ⟨A, 1, none⟩ = some (.string x.name) := HK.out.cell 1
  have he' := he.out
  go_wp2_with fail
  go_ret
  exact ⟨ret_text (ba_ext (by simp [bt, Pn.txt])), HBA.out⟩
end Go.Proofs.YtdlchhimkelinaaGreatDoor
namespace Go.Proofs.YtdlchhimkelinaaGreatDoor
open Go.RowKit Go.Sort
theorem digits_small (n : Nat) (h : n < 10) : Tx.digits n = [UInt8.ofNat (48 + n)] := by rw [Tx.digits, if_pos h]
theorem digits_great (n : Nat) (h : ¬ n < 10) : Tx.digits n = Tx.digits (n / 10) ++ [UInt8.ofNat (48 + n % 10)] := by rw [Tx.digits, if_neg h]
theorem conv_cell (w : World) (g : Nat) (m : Int) (h : w.cell? ⟨g, 0, none⟩ = some (.int .u8 m)) :
  (convert 57 9 (.slice (some ⟨g, 0, none⟩) 1 1)).run Tryz.prog w = .ok (.string (bt [UInt8.ofNat m.toNat])) w :=
 run_convert_bytes_arg w 57 5 Tryz.underlying57 Tryz.underlying5 g 0 1 1 [m] rfl (fun i hi => by
  obtain rfl : i = 0 := by omega
  exact h) 9 Tryz.underlying9
theorem conv_byte (w : World) (m : Int) :
  (convert 57 9 (.slice (some ⟨w.heap.size, 0, none⟩) 1 1)).run Tryz.prog (w.alloc (.cells #[.int .u8 m] 5)) = .ok (.string (bt [UInt8.ofNat m.toNat])) (w.alloc (.cells #[.int .u8 m] 5)) :=
 conv_cell _ _ _ (by simp [go_sem])
attribute [local go_sem ↓] conv_byte
theorem digits_base (n : Nat) (hn : n < 10) (w : World) : Calls Tryz.prog 108 #[.int .i64 (n : Int)] w fun e w' => e = .returned (.string (bt (Tx.digits n))) ∧ Below w.heap.size w w' := by
 rw [digits_small n hn]
 have h : n = 0 ∨ n = 1 ∨ n = 2 ∨ n = 3 ∨ n = 4 ∨ n = 5 ∨ n = 6 ∨ n = 7 ∨ n = 8 ∨ n = 9 := by omega
 clear hn
 rcases h with rfl | rfl | rfl | rfl | rfl | rfl | rfl | rfl | rfl | rfl
 all_goals
  go_enter Tryz.func108, Tryz.ntmps108
  go_wp2_with fail
  go_ret
  exact ⟨rfl, (Below.refl _ _).alloc (Nat.le_refl _) _⟩
/-- One more digit. -/
def okDig (n : Nat) : Prop := ∀ w : World, Calls Tryz.prog 108 #[.int .i64 (n : Int)] w fun e w' => e = .returned (.string (bt (Tx.digits n))) ∧ Below w.heap.size w w'
/-- What is still to be walked: numbers of more than one digit (region 3 of 108 draws its order). -/
def DigOk : Prop := ∀ n : Nat, n ≤ 999999999 → okDig n
theorem okNum_nat {n : Int} (h : Pn.okNum n = true) : ((n.toNat : Nat) : Int) = n ∧ n.toNat ≤ 999999999 := by
 unfold Pn.okNum at h
 simp only [Bool.and_eq_true, decide_eq_true_eq] at h
 omega
theorem dig_any (hD : DigOk) (n : Int) (w : World) (h : Pn.okNum n = true) : Calls Tryz.prog 108 #[.int .i64 n] w fun e w' => e = .returned (.string (bt (Tx.digits n.toNat))) ∧ Below w.heap.size w w' := by
 obtain ⟨h1, h2⟩ := okNum_nat h
 have := hD n.toNat h2 w
 rwa [h1] at this
theorem digits_len : ∀ (k n : Nat), n < 10 ^ (k + 1) → (Tx.digits n).length ≤ k + 1
 | 0, n, h => by rw [digits_small n (by omega)]; simp
 | k + 1, n, h => by
  by_cases h10 : n < 10
  ·rw [digits_small n h10]; simp
  ·rw [digits_great n h10, List.length_append]
   have := digits_len k (n / 10) (by rw [Nat.pow_succ] at h; omega)
   simp only [List.length_cons, List.length_nil]; omega
theorem term_len {x : Tm} (h : Pn.okTerm x = true) : (Pn.termT x).length ≤ 16 := by
 unfold Pn.okTerm at h
 unfold Pn.termT
 split
 ·rename_i h0
  rw [if_pos h0] at h
  have := digits_len 8 x.n.toNat (by have := (okNum_nat h).2; omega)
  omega
 ·rename_i h0
  rw [if_neg h0] at h
  simp only [Bool.and_eq_true] at h
  have := (Pn.okN_nameB h.1).1
  have e : (Pn.txt x.name).length = x.name.size := Tx.len_eq _
  omega
theorem termT_any (hD : DigOk) (x : Tm) (w : World) (ho : Pn.okTerm x = true) :
  Calls Tryz.prog 109 #[.agg #[.string x.name, .int .i64 x.n, .int .i64 x.pos]] w fun e w' => e = .returned (.string (bt (Pn.termT x))) ∧ Below w.heap.size w w' := by
 unfold Pn.okTerm at ho
 unfold Pn.termT
 obtain ⟨wA, hwA⟩ : ∃ wA : World, wA = w.alloc (.cells #[.string x.name, .int .i64 x.n, .int .i64 x.pos] 47) := ⟨_, rfl⟩
 have HBA : Hid (Below w.heap.size w wA) := hdn (by rw [hwA]; exact (Below.refl _ _).alloc (Nat.le_refl _) _)
 have HK : Hid (Bk wA w.heap.size 47 #[.string x.name, .int .i64 x.n, .int .i64 x.pos]) := hdn (by rw [hwA]; exact heap_alloc_new _ _)
 by_cases h0 : Pn.txt x.name = []
 ·rw [if_pos h0] at ho ⊢
  have HN := hdn ho; have HE := hdn (e_txt h0)
  clear h0 ho
  go_enter Tryz.func109, Tryz.ntmps109
  go_upto_region 1 with fail
  rw [← hwA]
  clear hwA
  obtain ⟨A, hA⟩ : ∃ A, A = w.heap.size := ⟨_, rfl⟩
  rw [← hA] at HK ⊢
  clear hA
  have c0 : wA.cell? ⟨A, 0, none⟩ = some (.string x.name) := HK.out.cell 0
  have c1 : wA.cell? ⟨A, 1, none⟩ = some (.int .i64 x.n) := HK.out.cell 1
  have he := HE.out
  go_wp2_with (go_at_call 108; refine (dig_any hD x.n _ HN.out).mono ?_; rintro e w1 ⟨rfl, hb⟩; have HB1 := hdn (HBA.out.trans (hb.mono HBA.out.size)); clear hb)
  go_ret
  exact ⟨rfl, HB1.out⟩
 ·rw [if_neg h0] at ho ⊢
  simp only [Bool.and_eq_true] at ho
  have HE := hdn (okN_ne ho.1)
  clear h0 ho
  go_enter Tryz.func109, Tryz.ntmps109
  go_upto_region 1 with fail
  rw [← hwA]
  clear hwA
  obtain ⟨A, hA⟩ : ∃ A, A = w.heap.size := ⟨_, rfl⟩
  rw [← hA] at HK ⊢
  clear hA
  have c0 : wA.cell? ⟨A, 0, none⟩ = some (.string x.name) := HK.out.cell 0
  have he := HE.out
  go_wp2_with fail
  go_ret
  exact ⟨ret_text (bt_txt _).symm, HBA.out⟩
end Go.Proofs.YtdlchhimkelinaaGreatDoor
namespace Go.Proofs.YtdlchhimkelinaaGreatDoor
open Go.RowKit Go.Sort
theorem val0 (x : Vl) (w : World) (k : x.kind = 0) :
  Calls Tryz.prog 70 #[.agg #[.int .i64 x.kind, .int .i64 x.pos, .string x.path.name, .int .i64 x.path.pos, .slice x.path.hops.p x.path.hops.l.length x.path.hops.cap, .string x.type, .string x.left.name, .int .i64 x.left.n, .int .i64 x.left.pos, .string x.right.name, .int .i64 x.right.n, .int .i64 x.right.pos]] w fun e w' => e = .returned (.string (bt Pn.tNull)) ∧ Below w.heap.size w w' := by
 have Z_k := hdn k
 clear k
 obtain ⟨wA, hwA⟩ : ∃ wA : World, wA = w.alloc (.cells #[.int .i64 x.kind, .int .i64 x.pos, .string x.path.name, .int .i64 x.path.pos, .slice x.path.hops.p x.path.hops.l.length x.path.hops.cap, .string x.type, .string x.left.name, .int .i64 x.left.n, .int .i64 x.left.pos, .string x.right.name, .int .i64 x.right.n, .int .i64 x.right.pos] 49) := ⟨_, rfl⟩
 have HBA : Hid (Below w.heap.size w wA) := hdn (by rw [hwA]; exact (Below.refl _ _).alloc (Nat.le_refl _) _)
 have HK : Hid (Bk wA w.heap.size 49 #[.int .i64 x.kind, .int .i64 x.pos, .string x.path.name, .int .i64 x.path.pos, .slice x.path.hops.p x.path.hops.l.length x.path.hops.cap, .string x.type, .string x.left.name, .int .i64 x.left.n, .int .i64 x.left.pos, .string x.right.name, .int .i64 x.right.n, .int .i64 x.right.pos]) := hdn (by rw [hwA]; exact heap_alloc_new _ _)
 go_enter Tryz.func70, Tryz.ntmps70
 go_upto_region 1 with fail
 rw [← hwA]
 clear hwA
 obtain ⟨A, hA⟩ : ∃ A, A = w.heap.size := ⟨_, rfl⟩
 rw [← hA] at HK ⊢
 have HA := hdn hA
 clear hA
 have c0 : wA.cell? ⟨A, 0, none⟩ = some (.int .i64 x.kind) := HK.out.cell 0
 have c2 : wA.cell? ⟨A, 2, none⟩ = some (.string x.path.name) := HK.out.cell 2
 have c3 : wA.cell? ⟨A, 3, none⟩ = some (.int .i64 x.path.pos) := HK.out.cell 3
 have c4 : wA.cell? ⟨A, 4, none⟩ = some (.slice x.path.hops.p x.path.hops.l.length x.path.hops.cap) := HK.out.cell 4
 have c5 : wA.cell? ⟨A, 5, none⟩ = some (.string x.type) := HK.out.cell 5
 have c7 : wA.cell? ⟨A, 7, none⟩ = some (.int .i64 x.left.n) := HK.out.cell 7
 have k := Z_k.out
 go_wp2_with fail
 go_ret
 exact ⟨rfl, HBA.out⟩
theorem val3 (x : Vl) (w : World) (k : x.kind = 3) :
  Calls Tryz.prog 70 #[.agg #[.int .i64 x.kind, .int .i64 x.pos, .string x.path.name, .int .i64 x.path.pos, .slice x.path.hops.p x.path.hops.l.length x.path.hops.cap, .string x.type, .string x.left.name, .int .i64 x.left.n, .int .i64 x.left.pos, .string x.right.name, .int .i64 x.right.n, .int .i64 x.right.pos]] w fun e w' => e = .returned (.string (bt Pn.tInput)) ∧ Below w.heap.size w w' := by
 have Z_k := hdn k
 clear k
 obtain ⟨wA, hwA⟩ : ∃ wA : World, wA = w.alloc (.cells #[.int .i64 x.kind, .int .i64 x.pos, .string x.path.name, .int .i64 x.path.pos, .slice x.path.hops.p x.path.hops.l.length x.path.hops.cap, .string x.type, .string x.left.name, .int .i64 x.left.n, .int .i64 x.left.pos, .string x.right.name, .int .i64 x.right.n, .int .i64 x.right.pos] 49) := ⟨_, rfl⟩
 have HBA : Hid (Below w.heap.size w wA) := hdn (by rw [hwA]; exact (Below.refl _ _).alloc (Nat.le_refl _) _)
 have HK : Hid (Bk wA w.heap.size 49 #[.int .i64 x.kind, .int .i64 x.pos, .string x.path.name, .int .i64 x.path.pos, .slice x.path.hops.p x.path.hops.l.length x.path.hops.cap, .string x.type, .string x.left.name, .int .i64 x.left.n, .int .i64 x.left.pos, .string x.right.name, .int .i64 x.right.n, .int .i64 x.right.pos]) := hdn (by rw [hwA]; exact heap_alloc_new _ _)
 go_enter Tryz.func70, Tryz.ntmps70
 go_upto_region 1 with fail
 rw [← hwA]
 clear hwA
 obtain ⟨A, hA⟩ : ∃ A, A = w.heap.size := ⟨_, rfl⟩
 rw [← hA] at HK ⊢
 have HA := hdn hA
 clear hA
 have c0 : wA.cell? ⟨A, 0, none⟩ = some (.int .i64 x.kind) := HK.out.cell 0
 have c2 : wA.cell? ⟨A, 2, none⟩ = some (.string x.path.name) := HK.out.cell 2
 have c3 : wA.cell? ⟨A, 3, none⟩ = some (.int .i64 x.path.pos) := HK.out.cell 3
 have c4 : wA.cell? ⟨A, 4, none⟩ = some (.slice x.path.hops.p x.path.hops.l.length x.path.hops.cap) := HK.out.cell 4
 have c5 : wA.cell? ⟨A, 5, none⟩ = some (.string x.type) := HK.out.cell 5
 have c7 : wA.cell? ⟨A, 7, none⟩ = some (.int .i64 x.left.n) := HK.out.cell 7
 have k := Z_k.out
 go_wp2_with fail
 go_ret
 exact ⟨rfl, HBA.out⟩
theorem val1 (x : Vl) (w : World) (k : x.kind = 1) (hl : vlLies w x) (hp : Pn.okPath x.path = true) :
  Calls Tryz.prog 70 #[.agg #[.int .i64 x.kind, .int .i64 x.pos, .string x.path.name, .int .i64 x.path.pos, .slice x.path.hops.p x.path.hops.l.length x.path.hops.cap, .string x.type, .string x.left.name, .int .i64 x.left.n, .int .i64 x.left.pos, .string x.right.name, .int .i64 x.right.n, .int .i64 x.right.pos]] w fun e w' => e = .returned (.string (bt (Pn.pathT x.path))) ∧ Below w.heap.size w w' := by
 have Z_k := hdn k
 clear k
 have Z_hl := hdn hl
 clear hl
 have Z_hp := hdn hp
 clear hp
 obtain ⟨wA, hwA⟩ : ∃ wA : World, wA = w.alloc (.cells #[.int .i64 x.kind, .int .i64 x.pos, .string x.path.name, .int .i64 x.path.pos, .slice x.path.hops.p x.path.hops.l.length x.path.hops.cap, .string x.type, .string x.left.name, .int .i64 x.left.n, .int .i64 x.left.pos, .string x.right.name, .int .i64 x.right.n, .int .i64 x.right.pos] 49) := ⟨_, rfl⟩
 have HBA : Hid (Below w.heap.size w wA) := hdn (by rw [hwA]; exact (Below.refl _ _).alloc (Nat.le_refl _) _)
 have HK : Hid (Bk wA w.heap.size 49 #[.int .i64 x.kind, .int .i64 x.pos, .string x.path.name, .int .i64 x.path.pos, .slice x.path.hops.p x.path.hops.l.length x.path.hops.cap, .string x.type, .string x.left.name, .int .i64 x.left.n, .int .i64 x.left.pos, .string x.right.name, .int .i64 x.right.n, .int .i64 x.right.pos]) := hdn (by rw [hwA]; exact heap_alloc_new _ _)
 go_enter Tryz.func70, Tryz.ntmps70
 go_upto_region 1 with fail
 rw [← hwA]
 clear hwA
 obtain ⟨A, hA⟩ : ∃ A, A = w.heap.size := ⟨_, rfl⟩
 rw [← hA] at HK ⊢
 have HA := hdn hA
 clear hA
 have c0 : wA.cell? ⟨A, 0, none⟩ = some (.int .i64 x.kind) := HK.out.cell 0
 have c2 : wA.cell? ⟨A, 2, none⟩ = some (.string x.path.name) := HK.out.cell 2
 have c3 : wA.cell? ⟨A, 3, none⟩ = some (.int .i64 x.path.pos) := HK.out.cell 3
 have c4 : wA.cell? ⟨A, 4, none⟩ = some (.slice x.path.hops.p x.path.hops.l.length x.path.hops.cap) := HK.out.cell 4
 have c5 : wA.cell? ⟨A, 5, none⟩ = some (.string x.type) := HK.out.cell 5
 have c7 : wA.cell? ⟨A, 7, none⟩ = some (.int .i64 x.left.n) := HK.out.cell 7
 have k := Z_k.out
 have HL1 := hdn (pthLies_below (pthLies_of Z_hl.out) HBA.out)
 go_wp2_with (go_at_call 69; refine (pathT_any x.path _ HL1.out Z_hp.out).mono ?_; rintro e w1 ⟨rfl, hb⟩; have HB1 := hdn (HBA.out.trans (hb.mono HBA.out.size)); clear hb)
 go_ret
 exact ⟨rfl, HB1.out⟩
theorem val2 (x : Vl) (w : World) (k : x.kind = 2) (ht : x.type.size ≤ 16) :
  Calls Tryz.prog 70 #[.agg #[.int .i64 x.kind, .int .i64 x.pos, .string x.path.name, .int .i64 x.path.pos, .slice x.path.hops.p x.path.hops.l.length x.path.hops.cap, .string x.type, .string x.left.name, .int .i64 x.left.n, .int .i64 x.left.pos, .string x.right.name, .int .i64 x.right.n, .int .i64 x.right.pos]] w fun e w' => e = .returned (.string (bt (Pn.tNew ++ [32] ++ Pn.txt x.type))) ∧ Below w.heap.size w w' := by
 have Z_k := hdn k
 clear k
 have Z_ht := hdn ht
 clear ht
 obtain ⟨wA, hwA⟩ : ∃ wA : World, wA = w.alloc (.cells #[.int .i64 x.kind, .int .i64 x.pos, .string x.path.name, .int .i64 x.path.pos, .slice x.path.hops.p x.path.hops.l.length x.path.hops.cap, .string x.type, .string x.left.name, .int .i64 x.left.n, .int .i64 x.left.pos, .string x.right.name, .int .i64 x.right.n, .int .i64 x.right.pos] 49) := ⟨_, rfl⟩
 have HBA : Hid (Below w.heap.size w wA) := hdn (by rw [hwA]; exact (Below.refl _ _).alloc (Nat.le_refl _) _)
 have HK : Hid (Bk wA w.heap.size 49 #[.int .i64 x.kind, .int .i64 x.pos, .string x.path.name, .int .i64 x.path.pos, .slice x.path.hops.p x.path.hops.l.length x.path.hops.cap, .string x.type, .string x.left.name, .int .i64 x.left.n, .int .i64 x.left.pos, .string x.right.name, .int .i64 x.right.n, .int .i64 x.right.pos]) := hdn (by rw [hwA]; exact heap_alloc_new _ _)
 go_enter Tryz.func70, Tryz.ntmps70
 go_upto_region 1 with fail
 rw [← hwA]
 clear hwA
 obtain ⟨A, hA⟩ : ∃ A, A = w.heap.size := ⟨_, rfl⟩
 rw [← hA] at HK ⊢
 have HA := hdn hA
 clear hA
 have c0 : wA.cell? ⟨A, 0, none⟩ = some (.int .i64 x.kind) := HK.out.cell 0
 have c2 : wA.cell? ⟨A, 2, none⟩ = some (.string x.path.name) := HK.out.cell 2
 have c3 : wA.cell? ⟨A, 3, none⟩ = some (.int .i64 x.path.pos) := HK.out.cell 3
 have c4 : wA.cell? ⟨A, 4, none⟩ = some (.slice x.path.hops.p x.path.hops.l.length x.path.hops.cap) := HK.out.cell 4
 have c5 : wA.cell? ⟨A, 5, none⟩ = some (.string x.type) := HK.out.cell 5
 have c7 : wA.cell? ⟨A, 7, none⟩ = some (.int .i64 x.left.n) := HK.out.cell 7
 have k := Z_k.out
 have ht := Z_ht.out
 go_wp2_with fail
 go_ret
 exact ⟨ret_text (ba_ext (by simp [bt, Pn.txt, Pn.tNew])), HBA.out⟩
theorem val4 (x : Vl) (w : World) (k : x.kind = 4) (hD : DigOk) (hn : Pn.okNum x.left.n = true) :
  Calls Tryz.prog 70 #[.agg #[.int .i64 x.kind, .int .i64 x.pos, .string x.path.name, .int .i64 x.path.pos, .slice x.path.hops.p x.path.hops.l.length x.path.hops.cap, .string x.type, .string x.left.name, .int .i64 x.left.n, .int .i64 x.left.pos, .string x.right.name, .int .i64 x.right.n, .int .i64 x.right.pos]] w fun e w' => e = .returned (.string (bt (Tx.digits x.left.n.toNat))) ∧ Below w.heap.size w w' := by
 have Z_k := hdn k
 clear k
 have Z_hn := hdn hn
 clear hn
 obtain ⟨wA, hwA⟩ : ∃ wA : World, wA = w.alloc (.cells #[.int .i64 x.kind, .int .i64 x.pos, .string x.path.name, .int .i64 x.path.pos, .slice x.path.hops.p x.path.hops.l.length x.path.hops.cap, .string x.type, .string x.left.name, .int .i64 x.left.n, .int .i64 x.left.pos, .string x.right.name, .int .i64 x.right.n, .int .i64 x.right.pos] 49) := ⟨_, rfl⟩
 have HBA : Hid (Below w.heap.size w wA) := hdn (by rw [hwA]; exact (Below.refl _ _).alloc (Nat.le_refl _) _)
 have HK : Hid (Bk wA w.heap.size 49 #[.int .i64 x.kind, .int .i64 x.pos, .string x.path.name, .int .i64 x.path.pos, .slice x.path.hops.p x.path.hops.l.length x.path.hops.cap, .string x.type, .string x.left.name, .int .i64 x.left.n, .int .i64 x.left.pos, .string x.right.name, .int .i64 x.right.n, .int .i64 x.right.pos]) := hdn (by rw [hwA]; exact heap_alloc_new _ _)
 go_enter Tryz.func70, Tryz.ntmps70
 go_upto_region 1 with fail
 rw [← hwA]
 clear hwA
 obtain ⟨A, hA⟩ : ∃ A, A = w.heap.size := ⟨_, rfl⟩
 rw [← hA] at HK ⊢
 have HA := hdn hA
 clear hA
 have c0 : wA.cell? ⟨A, 0, none⟩ = some (.int .i64 x.kind) := HK.out.cell 0
 have c2 : wA.cell? ⟨A, 2, none⟩ = some (.string x.path.name) := HK.out.cell 2
 have c3 : wA.cell? ⟨A, 3, none⟩ = some (.int .i64 x.path.pos) := HK.out.cell 3
 have c4 : wA.cell? ⟨A, 4, none⟩ = some (.slice x.path.hops.p x.path.hops.l.length x.path.hops.cap) := HK.out.cell 4
 have c5 : wA.cell? ⟨A, 5, none⟩ = some (.string x.type) := HK.out.cell 5
 have c7 : wA.cell? ⟨A, 7, none⟩ = some (.int .i64 x.left.n) := HK.out.cell 7
 have k := Z_k.out
 go_wp2_with (go_at_call 108; refine (dig_any hD x.left.n _ Z_hn.out).mono ?_; rintro e w1 ⟨rfl, hb⟩; have HB1 := hdn (HBA.out.trans (hb.mono HBA.out.size)); clear hb)
 go_ret
 exact ⟨rfl, HB1.out⟩
end Go.Proofs.YtdlchhimkelinaaGreatDoor
namespace Go.Proofs.YtdlchhimkelinaaGreatDoor
open Go.RowKit Go.Sort
theorem val5 (x : Vl) (w : World) (k : x.kind = 5) (hD : DigOk) (hl : Pn.okTerm x.left = true) (hr : Pn.okTerm x.right = true) :
  Calls Tryz.prog 70 #[.agg #[.int .i64 x.kind, .int .i64 x.pos, .string x.path.name, .int .i64 x.path.pos, .slice x.path.hops.p x.path.hops.l.length x.path.hops.cap, .string x.type, .string x.left.name, .int .i64 x.left.n, .int .i64 x.left.pos, .string x.right.name, .int .i64 x.right.n, .int .i64 x.right.pos]] w fun e w' => e = .returned (.string (bt (Pn.termT x.left ++ [32] ++ [43] ++ [32] ++ Pn.termT x.right))) ∧ Below w.heap.size w w' := by
 have Z_k := hdn k
 clear k
 have Z_hl := hdn hl
 clear hl
 have Z_hr := hdn hr
 clear hr
 obtain ⟨wA, hwA⟩ : ∃ wA : World, wA = w.alloc (.cells #[.int .i64 x.kind, .int .i64 x.pos, .string x.path.name, .int .i64 x.path.pos, .slice x.path.hops.p x.path.hops.l.length x.path.hops.cap, .string x.type, .string x.left.name, .int .i64 x.left.n, .int .i64 x.left.pos, .string x.right.name, .int .i64 x.right.n, .int .i64 x.right.pos] 49) := ⟨_, rfl⟩
 have HBA : Hid (Below w.heap.size w wA) := hdn (by rw [hwA]; exact (Below.refl _ _).alloc (Nat.le_refl _) _)
 have HK : Hid (Bk wA w.heap.size 49 #[.int .i64 x.kind, .int .i64 x.pos, .string x.path.name, .int .i64 x.path.pos, .slice x.path.hops.p x.path.hops.l.length x.path.hops.cap, .string x.type, .string x.left.name, .int .i64 x.left.n, .int .i64 x.left.pos, .string x.right.name, .int .i64 x.right.n, .int .i64 x.right.pos]) := hdn (by rw [hwA]; exact heap_alloc_new _ _)
 go_enter Tryz.func70, Tryz.ntmps70
 go_upto_region 1 with fail
 rw [← hwA]
 clear hwA
 obtain ⟨A, hA⟩ : ∃ A, A = w.heap.size := ⟨_, rfl⟩
 rw [← hA] at HK ⊢
 have HA := hdn hA
 clear hA
 have c0 : wA.cell? ⟨A, 0, none⟩ = some (.int .i64 x.kind) := HK.out.cell 0
 have c2 : wA.cell? ⟨A, 2, none⟩ = some (.string x.path.name) := HK.out.cell 2
 have c3 : wA.cell? ⟨A, 3, none⟩ = some (.int .i64 x.path.pos) := HK.out.cell 3
 have c4 : wA.cell? ⟨A, 4, none⟩ = some (.slice x.path.hops.p x.path.hops.l.length x.path.hops.cap) := HK.out.cell 4
 have c5 : wA.cell? ⟨A, 5, none⟩ = some (.string x.type) := HK.out.cell 5
 have c7 : wA.cell? ⟨A, 7, none⟩ = some (.int .i64 x.left.n) := HK.out.cell 7
 have HE : Hid (bt (Pn.termT x.left ++ [32] ++ [43] ++ [32] ++ Pn.termT x.right) = bt (Pn.termT x.left) ++ ⟨#[32, 43, 32]⟩ ++ bt (Pn.termT x.right)) := hdn (ba_ext (by simp [bt]))
 have CL : ∀ dd os, Calls Tryz.prog 109 #[.agg #[.string x.left.name, .int .i64 x.left.n, .int .i64 x.left.pos]] (grow (redrawn wA dd) os) fun en w'' => en = .returned (.string (bt (Pn.termT x.left))) ∧ ∃ p : Regrown, w'' = grow (redrawn wA p.d) p.os :=
  fun dd os => Calls.regrown_of (termT_any hD x.left _ Z_hl.out)
 have CR : ∀ dd os, Calls Tryz.prog 109 #[.agg #[.string x.right.name, .int .i64 x.right.n, .int .i64 x.right.pos]] (grow (redrawn wA dd) os) fun en w'' => en = .returned (.string (bt (Pn.termT x.right))) ∧ ∃ p : Regrown, w'' = grow (redrawn wA p.d) p.os :=
  fun dd os => Calls.regrown_of (termT_any hD x.right _ Z_hr.out)
 have sl : (bt (Pn.termT x.left)).size ≤ 16 := term_len Z_hl.out
 have sr : (bt (Pn.termT x.right)).size ≤ 16 := term_len Z_hr.out
 have c6 : wA.cell? ⟨A, 6, none⟩ = some (.string x.left.name) := HK.out.cell 6
 have k6 := cell_regrown c6
 have c7 : wA.cell? ⟨A, 7, none⟩ = some (.int .i64 x.left.n) := HK.out.cell 7
 have k7 := cell_regrown c7
 have c8 : wA.cell? ⟨A, 8, none⟩ = some (.int .i64 x.left.pos) := HK.out.cell 8
 have k8 := cell_regrown c8
 have c9 : wA.cell? ⟨A, 9, none⟩ = some (.string x.right.name) := HK.out.cell 9
 have k9 := cell_regrown c9
 have c10 : wA.cell? ⟨A, 10, none⟩ = some (.int .i64 x.right.n) := HK.out.cell 10
 have k10 := cell_regrown c10
 have c11 : wA.cell? ⟨A, 11, none⟩ = some (.int .i64 x.right.pos) := HK.out.cell 11
 have k11 := cell_regrown c11
 generalize bt (Pn.termT x.left) = tl at *
 generalize bt (Pn.termT x.right) = tr at *
 have k := Z_k.out
 go_wp2_with fail
 refine wp_region_quiet_below (by kernel_rfl) (by kernel_rfl) ?_
 repeat (go_big_quiet_step (first | (with_reducible exact CL _ _) | (with_reducible exact CR _ _)))
 refine wpQuiet_nil ?_
 intro _ hw'
 obtain ⟨⟨dq, osq⟩, hw''⟩ := hw'
 subst hw''
 have HB3 := hdn (below_regrown wA dq osq)
 generalize grow (redrawn wA dq) osq = w3 at HB3 ⊢
 go_wp2_with fail
 go_ret
 exact ⟨ret_text HE.out.symm, HBA.out.trans (HB3.out.mono HBA.out.size)⟩
theorem val6 (x : Vl) (w : World) (k : x.kind = 6) (hD : DigOk) (hl : Pn.okTerm x.left = true) (hr : Pn.okTerm x.right = true) :
  Calls Tryz.prog 70 #[.agg #[.int .i64 x.kind, .int .i64 x.pos, .string x.path.name, .int .i64 x.path.pos, .slice x.path.hops.p x.path.hops.l.length x.path.hops.cap, .string x.type, .string x.left.name, .int .i64 x.left.n, .int .i64 x.left.pos, .string x.right.name, .int .i64 x.right.n, .int .i64 x.right.pos]] w fun e w' => e = .returned (.string (bt (Pn.termT x.left ++ [32] ++ [45] ++ [32] ++ Pn.termT x.right))) ∧ Below w.heap.size w w' := by
 have Z_k := hdn k
 clear k
 have Z_hl := hdn hl
 clear hl
 have Z_hr := hdn hr
 clear hr
 obtain ⟨wA, hwA⟩ : ∃ wA : World, wA = w.alloc (.cells #[.int .i64 x.kind, .int .i64 x.pos, .string x.path.name, .int .i64 x.path.pos, .slice x.path.hops.p x.path.hops.l.length x.path.hops.cap, .string x.type, .string x.left.name, .int .i64 x.left.n, .int .i64 x.left.pos, .string x.right.name, .int .i64 x.right.n, .int .i64 x.right.pos] 49) := ⟨_, rfl⟩
 have HBA : Hid (Below w.heap.size w wA) := hdn (by rw [hwA]; exact (Below.refl _ _).alloc (Nat.le_refl _) _)
 have HK : Hid (Bk wA w.heap.size 49 #[.int .i64 x.kind, .int .i64 x.pos, .string x.path.name, .int .i64 x.path.pos, .slice x.path.hops.p x.path.hops.l.length x.path.hops.cap, .string x.type, .string x.left.name, .int .i64 x.left.n, .int .i64 x.left.pos, .string x.right.name, .int .i64 x.right.n, .int .i64 x.right.pos]) := hdn (by rw [hwA]; exact heap_alloc_new _ _)
 go_enter Tryz.func70, Tryz.ntmps70
 go_upto_region 1 with fail
 rw [← hwA]
 clear hwA
 obtain ⟨A, hA⟩ : ∃ A, A = w.heap.size := ⟨_, rfl⟩
 rw [← hA] at HK ⊢
 have HA := hdn hA
 clear hA
 have c0 : wA.cell? ⟨A, 0, none⟩ = some (.int .i64 x.kind) := HK.out.cell 0
 have c2 : wA.cell? ⟨A, 2, none⟩ = some (.string x.path.name) := HK.out.cell 2
 have c3 : wA.cell? ⟨A, 3, none⟩ = some (.int .i64 x.path.pos) := HK.out.cell 3
 have c4 : wA.cell? ⟨A, 4, none⟩ = some (.slice x.path.hops.p x.path.hops.l.length x.path.hops.cap) := HK.out.cell 4
 have c5 : wA.cell? ⟨A, 5, none⟩ = some (.string x.type) := HK.out.cell 5
 have c7 : wA.cell? ⟨A, 7, none⟩ = some (.int .i64 x.left.n) := HK.out.cell 7
 have HE : Hid (bt (Pn.termT x.left ++ [32] ++ [45] ++ [32] ++ Pn.termT x.right) = bt (Pn.termT x.left) ++ ⟨#[32, 45, 32]⟩ ++ bt (Pn.termT x.right)) := hdn (ba_ext (by simp [bt]))
 have CL : ∀ dd os, Calls Tryz.prog 109 #[.agg #[.string x.left.name, .int .i64 x.left.n, .int .i64 x.left.pos]] (grow (redrawn wA dd) os) fun en w'' => en = .returned (.string (bt (Pn.termT x.left))) ∧ ∃ p : Regrown, w'' = grow (redrawn wA p.d) p.os :=
  fun dd os => Calls.regrown_of (termT_any hD x.left _ Z_hl.out)
 have CR : ∀ dd os, Calls Tryz.prog 109 #[.agg #[.string x.right.name, .int .i64 x.right.n, .int .i64 x.right.pos]] (grow (redrawn wA dd) os) fun en w'' => en = .returned (.string (bt (Pn.termT x.right))) ∧ ∃ p : Regrown, w'' = grow (redrawn wA p.d) p.os :=
  fun dd os => Calls.regrown_of (termT_any hD x.right _ Z_hr.out)
 have sl : (bt (Pn.termT x.left)).size ≤ 16 := term_len Z_hl.out
 have sr : (bt (Pn.termT x.right)).size ≤ 16 := term_len Z_hr.out
 have c6 : wA.cell? ⟨A, 6, none⟩ = some (.string x.left.name) := HK.out.cell 6
 have k6 := cell_regrown c6
 have c7 : wA.cell? ⟨A, 7, none⟩ = some (.int .i64 x.left.n) := HK.out.cell 7
 have k7 := cell_regrown c7
 have c8 : wA.cell? ⟨A, 8, none⟩ = some (.int .i64 x.left.pos) := HK.out.cell 8
 have k8 := cell_regrown c8
 have c9 : wA.cell? ⟨A, 9, none⟩ = some (.string x.right.name) := HK.out.cell 9
 have k9 := cell_regrown c9
 have c10 : wA.cell? ⟨A, 10, none⟩ = some (.int .i64 x.right.n) := HK.out.cell 10
 have k10 := cell_regrown c10
 have c11 : wA.cell? ⟨A, 11, none⟩ = some (.int .i64 x.right.pos) := HK.out.cell 11
 have k11 := cell_regrown c11
 generalize bt (Pn.termT x.left) = tl at *
 generalize bt (Pn.termT x.right) = tr at *
 have k := Z_k.out
 go_wp2_with fail
 refine wp_region_quiet_below (by kernel_rfl) (by kernel_rfl) ?_
 repeat (go_big_quiet_step (first | (with_reducible exact CL _ _) | (with_reducible exact CR _ _)))
 refine wpQuiet_nil ?_
 intro _ hw'
 obtain ⟨⟨dq, osq⟩, hw''⟩ := hw'
 subst hw''
 have HB3 := hdn (below_regrown wA dq osq)
 generalize grow (redrawn wA dq) osq = w3 at HB3 ⊢
 go_wp2_with fail
 go_ret
 exact ⟨ret_text HE.out.symm, HBA.out.trans (HB3.out.mono HBA.out.size)⟩
/-- The document's text of a value. -/
theorem valT_any (hD : DigOk) (x : Vl) (w : World) (hl : vlLies w x) (ho : Pn.okVal x = true) :
  Calls Tryz.prog 70 #[.agg #[.int .i64 x.kind, .int .i64 x.pos, .string x.path.name, .int .i64 x.path.pos, .slice x.path.hops.p x.path.hops.l.length x.path.hops.cap, .string x.type, .string x.left.name, .int .i64 x.left.n, .int .i64 x.left.pos, .string x.right.name, .int .i64 x.right.n, .int .i64 x.right.pos]] w fun e w' => e = .returned (.string (bt (Pn.valT x))) ∧ Below w.heap.size w w' := by
 unfold Pn.okVal at ho
 unfold Pn.valT
 by_cases k0 : x.kind = 0
 ·rw [if_pos k0]; exact val0 x w k0
 rw [if_neg k0]
 by_cases k3 : x.kind = 3
 ·rw [if_neg (by omega), if_neg (by omega), if_pos k3]; exact val3 x w k3
 rw [if_neg (by omega)] at ho
 by_cases k1 : x.kind = 1
 ·rw [if_pos k1] at ho ⊢
  simp only [Bool.and_eq_true] at ho
  exact val1 x w k1 hl ho.2
 rw [if_neg k1] at ho ⊢
 by_cases k2 : x.kind = 2
 ·rw [if_pos k2] at ho ⊢
  simp only [Bool.and_eq_true] at ho
  exact val2 x w k2 (Pn.okN_nameB ho.2).1
 rw [if_neg k2] at ho ⊢
 rw [if_neg k3]
 by_cases k4 : x.kind = 4
 ·rw [if_pos k4] at ho ⊢
  simp only [Bool.and_eq_true] at ho
  exact val4 x w k4 hD ho.2
 rw [if_neg k4] at ho ⊢
 by_cases k5 : x.kind = 5 ∨ x.kind = 6
 ·rw [if_pos k5] at ho
  simp only [Bool.and_eq_true] at ho
  rcases k5 with k | k
  ·rw [if_pos k]; exact val5 x w k hD ho.1.2 ho.2
  ·rw [if_neg (by omega)]; exact val6 x w k hD ho.1.2 ho.2
 ·rw [if_neg k5] at ho; cases ho
end Go.Proofs.YtdlchhimkelinaaGreatDoor
