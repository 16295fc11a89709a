/-
  DERIVED. The walk of the law's 'bare': statements without places have none.
-/
import Derived.Test.YtpbjnjnmbglllaaPn
namespace Go.Proofs.Ytpbjnjnmbglllaa
open Go.RowKit Go.Sort

def bareOk (l : SL) : Prop := ∀ (p : Option Addr) (c : Nat) (w : World), sLies w p l → l.flat →
      Calls Try.prog 24 #[.slice p l.len c] w fun e w' => e = .returned (.bool true) ∧ Below w.heap.size w w'

set_option maxHeartbeats 1600000 in
set_option maxRecDepth 100000 in
theorem bare_one (l : SL) (hP : l.each bareOk) (p : Option Addr) (c : Nat) (w : World) (hl : sLies w p l) (hf : l.flat) :
    Calls Try.prog 24 #[.slice p l.len c] w fun e w' => e = .returned (.bool true) ∧ Below w.heap.size w w' := by
  obtain ⟨hlen, hl⟩ := hl
  have hlen' : l.len ≤ 300000000000 := by omega
  clear hlen
  have HP := Lib.hid hP
  have HF := Lib.hid hf
  clear hP hf
  go_enter Try.func24, Try.ntmps24
  go_wp2_with fail
  go_loopw [3] (fun i wr => ∃ (k : Nat) (rest : SL), i = .int .i64 k ∧ k ≤ l.len ∧ Hid (k + rest.len = l.len) ∧ Hid rest.flat ∧
      Hid (rest = .nil ∨ ∃ b o, p = some ⟨b, o, none⟩ ∧ lies w rest b (o + k * 48)) ∧ Hid (rest.each (bareOk)) ∧ Hid (Below w.heap.size w wr)) (fun i _ => l.len - (intOf i).toNat)
  case atStart => exact ⟨0, l, rfl, Nat.zero_le _, Lib.hid (Nat.zero_add _), HF, Lib.hid (by simpa using hl), HP, Lib.hid (Below.refl _ _)⟩
  case round =>
    obtain ⟨k, rest, rfl, hk, HK, HE, HL, HQ, HB⟩ := hrel
    cases rest with
    | nil =>
      have hk' : l.len ≤ k := by have := HK.out; simp only [SL.len] at this; omega
      go_wp2_with fail
      go_ret
      exact ⟨rfl, HB.out⟩
    | cons h tp tc t ep ec e r =>
      have hkl : k < l.len := by have := HK.out; simp only [SL.len] at this; omega
      have hr := HL.out
      obtain ⟨b, o, rfl, hrg, hhd, hts, hes, hrs⟩ : ∃ b o, p = some ⟨b, o, none⟩ ∧ w.rangeAt b (o + k * 48) (scells h tp t.len tc ep e.len ec) ∧ hdLies w h ∧ sLies w tp t ∧ sLies w ep e ∧ (r = .nil ∨ lies w r b (o + k * 48 + 48)) := by
        rcases hr with hr | ⟨b, o, hp, h1, h2, h3, h4, h5⟩
        · cases hr
        · exact ⟨b, o, hp, h1, h2, h3, h4, .inr h5⟩
      obtain ⟨hQt, hQe, hQr⟩ := HQ.out
      obtain ⟨⟨f0, ⟨f1, fh⟩, ⟨f2, _, f3, _⟩, ⟨f4, ⟨f5, _⟩, _⟩, _⟩, ft, fe, fr⟩ := HE.out
      have f3' : h.value.left.pos = 0 := f3
      obtain ⟨cs, hcs⟩ : ∃ cs, cs = sarr h tp t.len tc ep e.len ec := ⟨_, rfl⟩
      have HRG : Hid (wr.rangeAt b (o + k * 48) cs.toList) := Lib.hid (by rw [hcs]; exact rangeAt_below hrg HB.out)
      have HSZ : Hid ((Try.prog.info? 57).map (·.size) = some cs.size) := Lib.hid (by rw [hcs]; exact size57)
      have HZ : Hid (48 = cs.size) := Lib.hid (by rw [hcs]; rfl)
      have HON : Hid (cs.all (·.oneCell') = true) := Lib.hid (by rw [hcs]; exact scells_one _ _ _ _ _ _ _)
      have c1 : cs[1]? = some (.int .i64 0) := by rw [← f0, hcs]; rfl
      have c3 : cs[3]? = some (.int .i64 0) := by rw [← f1, hcs]; rfl
      have c6 : cs[6]? = some (.int .i64 0) := by rw [← f2, hcs]; rfl
      have c13 : cs[13]? = some (.int .i64 0) := by rw [← f3', hcs]; rfl
      have c18 : cs[18]? = some (.int .i64 0) := by rw [← f4, hcs]; rfl
      have c20 : cs[20]? = some (.int .i64 0) := by rw [← f5, hcs]; rfl
      have c4 : cs[4]? = some (.slice h.place.hops.p h.place.hops.l.length h.place.hops.cap) := by rw [hcs]; rfl
      have c45 : cs[45]? = some (.slice tp t.len tc) := by rw [hcs]; rfl
      have c46 : cs[46]? = some (.slice ep e.len ec) := by rw [hcs]; rfl
      clear hcs
      have HHD := Lib.hid hhd.1
      have HFH := Lib.hid fh
      have HTS := Lib.hid hts
      have HES := Lib.hid hes
      have HRS := Lib.hid hrs
      have HQT := Lib.hid hQt
      have HQE := Lib.hid hQe
      have HQR := Lib.hid hQr
      have HFT := Lib.hid ft
      have HFE := Lib.hid fe
      have HFR := Lib.hid fr
      clear hhd hts hes hrs hQt hQe hQr hrg hr ft fe fr fh f0 f1 f2 f3 f3' f4 f5
      go_wp2_with (first | ((with_reducible show wpList _ _ _ (Oper.mk (some 15) _ _ _ _ _ :: _) _ _); refine wpList_load_arr rfl 57 (.tmp 14) rfl b (o + k * 48) rfl cs _ HRG.out Try.underlying57 rfl HSZ.out ?_) | ((with_reducible show wpList _ _ _ (Oper.mk none (Op.store _ _ _) _ _ _ _ :: _) _ _); refine wpList_store_new rfl 57 (.tmp 4) (.tmp 15) rfl _ cs rfl rfl HSZ.out HZ.out HON.out ?_))
      have hB1 : Below w.heap.size w (wr.alloc (.cells cs 57)) := HB.out.alloc HB.out.size _
      have kc : ∀ (w' : World), Below (wr.alloc (.cells cs 57)).heap.size (wr.alloc (.cells cs 57)) w' → ∀ (j : Nat) (v : Value), cs[j]? = some v → w'.cell? ⟨wr.heap.size, j, none⟩ = some v := fun w' hb j v hv =>
        (hb.cell (p := ⟨wr.heap.size, j, none⟩) (by simp)).trans ((World.cell?_alloc_at _ _ _ _ rfl).trans hv)
      have KC := Lib.hid kc
      have HBB := Lib.hid hB1
      clear kc hB1 c1 c3 c6 c13 c18 c20
      generalize (wr.alloc (.cells cs 57)) = wA at HBB KC ⊢
      refine (HQT.out _ _ _ (sLies_below HTS.out HBB.out) HFT.out).mono ?_
      rintro en w1 ⟨rfl, hb1⟩
      have k46 := KC.out _ hb1 _ _ c46
      have HB2 := Lib.hid hb1
      clear hb1
      go_wp2_with fail
      refine (HQE.out _ _ _ (sLies_below (sLies_below HES.out HBB.out) HB2.out) HFE.out).mono ?_
      rintro en w2 ⟨rfl, hb2⟩
      have hb3 := HB2.out.trans (hb2.mono HB2.out.size)
      have k4 := KC.out _ hb3 _ _ c4
      have HB3 := Lib.hid hb3
      clear hb2 hb3 k46 HB2 w1
      go_wp2_with fail
      clear k4
      have HW2 : Hid (Below w.heap.size w w2) := Lib.hid (HBB.out.trans (HB3.out.mono HBB.out.size))
      have HHL : Hid (h.place.hops.l.length ≤ 6000000000000) := Lib.hid (by have := HHD.out.1; omega)
      obtain ⟨wo, rfl⟩ : ∃ wo : World, wo = wr := ⟨_, rfl⟩
      go_loopw [5] (fun i wi => ∃ j : Nat, i = .int .i64 j ∧ j ≤ h.place.hops.l.length ∧ Hid (Below wA.heap.size wA wi)) (fun i _ => h.place.hops.l.length - (intOf i).toNat)
      case atStart => exact ⟨0, rfl, Nat.zero_le _, HB3⟩
      case round =>
        obtain ⟨j, rfl, hj, HBi⟩ := hrel
        have k4 := KC.out _ HBi.out _ _ c4
        have HWi : Hid (Below w.heap.size w wr) := Lib.hid (HBB.out.trans (HBi.out.mono HBB.out.size))
        by_cases hjl : j < h.place.hops.l.length
        · obtain ⟨b1, o1, hp1, hx⟩ : ∃ b o, h.place.hops.p = some ⟨b, o, none⟩ ∧ ∀ k x, h.place.hops.l[k]? = some x → w.rangeAt b (o + k * 2) (Hp.cells x) ∧ True := by
            rcases HHD.out.2 with hh | hh
            · rw [hh] at hjl; simp at hjl
            · exact hh
          rw [hp1] at k4
          have hx1 := hx j h.place.hops.l[j] (List.getElem?_eq_getElem hjl)
          have hx0 : h.place.hops.l[j].pos = 0 := HFH.out _ (List.getElem_mem _)
          have cx := cell_at (rangeAt_below hx1.1 HWi.out) 1 _ rfl
          rw [hx0] at cx
          clear hx hx1 hx0
          have hj0 : (0 : Int) ≤ (j : Int) := Int.natCast_nonneg _
          have hj1 : (j : Int) < (h.place.hops.l.length : Int) := by omega
          have hj2 := HHL.out
          go_wp2_with fail
          go_roundw
          case rel => exact ⟨j + 1, by go_num, by omega, HBi⟩
          case measure => simp [intOf]; omega
        · have hj2 := HHL.out
          go_wp2_with fail
          go_roundw
          case rel =>
            refine ⟨k + 1, r, by go_num, by omega, Lib.hid (by have := HK.out; simp only [SL.len] at this; omega), HFR, Lib.hid ?_, HQR, HWi⟩
            rcases HRS.out with hr | hr
            · exact .inl hr
            · exact .inr ⟨b, o, rfl, by rw [show o + (k + 1) * 48 = o + k * 48 + 48 by omega]; exact hr⟩
          case measure => simp [intOf]; omega
theorem bare_any (l : SL) (p : Option Addr) (c : Nat) (w : World) (hl : sLies w p l) (hf : l.flat) :
    Calls Try.prog 24 #[.slice p l.len c] w fun e w' => e = .returned (.bool true) ∧ Below w.heap.size w w' :=
  (SL.all (P := bareOk) (fun l h p c w a b => bare_one l h p c w a b) l).1 p c w hl hf

end Go.Proofs.Ytpbjnjnmbglllaa
