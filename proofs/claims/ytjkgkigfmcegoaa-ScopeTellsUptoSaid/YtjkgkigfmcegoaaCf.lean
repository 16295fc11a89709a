/-
  DERIVED. The walk of a procedure's parameters and locals.
-/
import Derived.Test.YtjkgkigfmcegoaaGb
namespace Go.Proofs.Ytjkgkigfmcegoaa
open Go.RowKit Go.Sort Go.Maps

theorem Gr.lay {α : Type} {size : Nat} {cells : α → List Value} {R : World → α → Prop} {w w' : World} {p : Option Addr} {l : List α} (h : Lay size cells R w p l) (hb : Below w.heap.size w w') (hR : ∀ x, R w x → R w' x) : Lay size cells R w' p l := h.below hb hR
/-- Both lists of a frame. -/
def lists2 (q : Pc) : List (Sl Dc) := [q.params, q.locals_]
theorem frame_lists (q : Pc) : frameOf q = (lists2 q).flatMap (·.l) := by simp [frameOf, lists2]

structure FrInv (sn : List ByteArray) (q : Pc) (M : Nat) (w wr : World) (hd rest : List Dc) : Prop where
  go : declsGo sn [] (frameOf q) = declsGo sn (dNames hd) rest
  roll : Roll byName wr (w.heap.size + 1) (dNames hd)
  below : Below w.heap.size w wr
  bk : Bk wr (w.heap.size + 1 + 1) 23 #[.slice q.params.p q.params.l.length q.params.cap, .slice q.locals_.p q.locals_.l.length q.locals_.cap]
theorem FrInv.fresh {sn : List ByteArray} {q : Pc} {M : Nat} {w wr w' : World} {hd rest : List Dc} (h : FrInv sn q M w wr hd rest) (hg : Gr wr w' (fun _ => False)) : FrInv sn q M w w' hd rest where
  go := h.go
  roll := hg.roll h.roll (fun h => h)
  below := h.below.trans ((hg.below (N := w.heap.size) h.below.size (fun _ h => h.elim)))
  bk := hg.bk h.bk (fun h => h)
theorem FrInv.step {sn : List ByteArray} {q : Pc} {M : Nat} {w wr w' : World} {hd rest : List Dc} {d : Dc} {en : Ending} (h : FrInv sn q M w wr hd (d :: rest)) (hp : DePost sn (dNames hd) d (w.heap.size + 1) wr en w') (h0 : declE sn (dNames hd) d = 0) : FrInv sn q M w w' (hd ++ [d]) rest where
  go := by rw [h.go, declsGo_cons, if_pos h0, dNames_snoc]
  roll := by
    have := hp.2.1
    unfold addL at this
    rw [if_pos (declE_add h0)] at this
    rw [dNames_snoc]; exact this
  below := h.below.trans (hp.2.2.below (N := w.heap.size) h.below.size (fun k h => by omega))
  bk := hp.2.2.bk h.bk (by omega)
/-- What a frame's check leaves. -/
def FrPost (sn : List ByteArray) (q : Pc) (w : World) (en : Ending) (w' : World) : Prop :=
  en = .returned (.tuple #[.int .i64 (declsGo sn [] (frameOf q)).1, .int .i64 (declsGo sn [] (frameOf q)).2]) ∧ Below w.heap.size w w'
theorem dcsLay {w w' : World} {s : Sl Dc} (h : declsLie w s) (hb : Below w.heap.size w w') : Lay 3 Dc.cells dcR w' s.p s.l := declsLie_below h hb

set_option maxHeartbeats 3200000 in
set_option maxRecDepth 100000 in
theorem checkFrame_any (q : Pc) (M : Nat) (sn : List ByteArray) (w : World) (hq : pcLies w q) (hM : M + 4 < w.heap.size) (h0 : w.cell? ⟨M + 4, 0, none⟩ = some (.map (some M))) (hS : Roll byName w M sn) :
    Calls Try.prog 37 #[tptr M, .agg #[.string q.name, .int .i64 q.pos, .int .i64 q.fin, .slice q.params.p q.params.l.length q.params.cap, .slice q.locals_.p q.locals_.l.length q.locals_.cap, .slice q.bp q.body.len q.bc]] w (FrPost sn q w) := by
  have hgn : Gr w (w.alloc (.cells #[.string q.name, .int .i64 q.pos, .int .i64 q.fin, .slice q.params.p q.params.l.length q.params.cap, .slice q.locals_.p q.locals_.l.length q.locals_.cap, .slice q.bp q.body.len q.bc] 49)) (fun _ => False) := (Gr.refl w _).alloc _
  have HMK : Hid (Roll byName (((w.alloc (.cells #[.string q.name, .int .i64 q.pos, .int .i64 q.fin, .slice q.params.p q.params.l.length q.params.cap, .slice q.locals_.p q.locals_.l.length q.locals_.cap, .slice q.bp q.body.len q.bc] 49)).alloc (.map #[] 0)).alloc (.cells #[.slice q.params.p q.params.l.length q.params.cap, .slice q.locals_.p q.locals_.l.length q.locals_.cap] 23)) (w.heap.size + 1) []) := Lib.hid (by
    have h1 := Roll.made byName (w.alloc (.cells #[.string q.name, .int .i64 q.pos, .int .i64 q.fin, .slice q.params.p q.params.l.length q.params.cap, .slice q.locals_.p q.locals_.l.length q.locals_.cap, .slice q.bp q.body.len q.bc] 49))
    have h2 := ((Gr.refl _ (fun _ => False)).alloc (.cells #[.slice q.params.p q.params.l.length q.params.cap, .slice q.locals_.p q.locals_.l.length q.locals_.cap] 23)).roll h1 (fun h => h)
    rwa [World.size_alloc] at h2)
  have HBL : Hid (Below w.heap.size w (((w.alloc (.cells #[.string q.name, .int .i64 q.pos, .int .i64 q.fin, .slice q.params.p q.params.l.length q.params.cap, .slice q.locals_.p q.locals_.l.length q.locals_.cap, .slice q.bp q.body.len q.bc] 49)).alloc (.map #[] 0)).alloc (.cells #[.slice q.params.p q.params.l.length q.params.cap, .slice q.locals_.p q.locals_.l.length q.locals_.cap] 23))) := Lib.hid ((((Below.refl _ _).alloc (Nat.le_refl _) _).alloc (by simp) _).alloc (by simp; omega) _)
  have HBK : Hid (Bk (((w.alloc (.cells #[.string q.name, .int .i64 q.pos, .int .i64 q.fin, .slice q.params.p q.params.l.length q.params.cap, .slice q.locals_.p q.locals_.l.length q.locals_.cap, .slice q.bp q.body.len q.bc] 49)).alloc (.map #[] 0)).alloc (.cells #[.slice q.params.p q.params.l.length q.params.cap, .slice q.locals_.p q.locals_.l.length q.locals_.cap] 23)) (w.heap.size + 1 + 1) 23 #[.slice q.params.p q.params.l.length q.params.cap, .slice q.locals_.p q.locals_.l.length q.locals_.cap]) := Lib.hid (by
    have h1 := heap_alloc_new ((w.alloc (.cells #[.string q.name, .int .i64 q.pos, .int .i64 q.fin, .slice q.params.p q.params.l.length q.params.cap, .slice q.locals_.p q.locals_.l.length q.locals_.cap, .slice q.bp q.body.len q.bc] 49)).alloc (.map #[] 0)) (.cells #[.slice q.params.p q.params.l.length q.params.cap, .slice q.locals_.p q.locals_.l.length q.locals_.cap] 23)
    rw [World.size_alloc, World.size_alloc] at h1
    exact h1)
  have HI0 : Hid (FrInv sn q M w (((w.alloc (.cells #[.string q.name, .int .i64 q.pos, .int .i64 q.fin, .slice q.params.p q.params.l.length q.params.cap, .slice q.locals_.p q.locals_.l.length q.locals_.cap, .slice q.bp q.body.len q.bc] 49)).alloc (.map #[] 0)).alloc (.cells #[.slice q.params.p q.params.l.length q.params.cap, .slice q.locals_.p q.locals_.l.length q.locals_.cap] 23)) [] (((lists2 q).drop 0).flatMap (·.l))) := Lib.hid ⟨by rw [frame_lists]; rfl, HMK.out, HBL.out, HBK.out⟩
  have HQ := Lib.hid hq
  have HM := Lib.hid hM
  have H0 := Lib.hid h0
  have HS := Lib.hid hS
  clear hq hM h0 hS HMK HBL HBK hgn
  have hmm := @run_makeMap Try.prog
  unfold tptr
  go_enter Try.func37, Try.ntmps37
  go_wp2_with fail
  generalize ((w.alloc (.cells #[.string q.name, .int .i64 q.pos, .int .i64 q.fin, .slice q.params.p q.params.l.length q.params.cap, .slice q.locals_.p q.locals_.l.length q.locals_.cap, .slice q.bp q.body.len q.bc] 49)).alloc (.map #[] 0)).alloc (.cells #[.slice q.params.p q.params.l.length q.params.cap, .slice q.locals_.p q.locals_.l.length q.locals_.cap] 23) = wA at HI0 ⊢
  clear hmm
  go_loopw [20] (fun i wr => ∃ (k : Nat) (hd : List Dc), i = .int .i64 k ∧ k ≤ 2 ∧ Hid (FrInv sn q M w wr hd (((lists2 q).drop k).flatMap (·.l)))) (fun i _ => 2 - (intOf i).toNat)
  case atStart => exact ⟨0, [], rfl, Nat.zero_le _, HI0⟩
  case round =>
    obtain ⟨k, hd, rfl, hk, HV⟩ := hrel
    by_cases hkl : k < 2
    · obtain ⟨s, hcell, hlay, hrest⟩ : ∃ s : Sl Dc, wr.cell? ⟨w.heap.size + 1 + 1, k, none⟩ = some (.slice s.p s.l.length s.cap) ∧ declsLie w s ∧ ((lists2 q).drop k).flatMap (·.l) = s.l ++ ((lists2 q).drop (k + 1)).flatMap (·.l) := by
        have hk2 : k = 0 ∨ k = 1 := by omega
        rcases hk2 with rfl | rfl
        · exact ⟨q.params, HV.out.bk.cell 0, HQ.out.1, rfl⟩
        · exact ⟨q.locals_, HV.out.bk.cell 1, HQ.out.2.1, rfl⟩
      have HV1 : Hid (FrInv sn q M w wr hd (s.l ++ ((lists2 q).drop (k + 1)).flatMap (·.l))) := Lib.hid (by have := HV.out; rwa [hrest] at this)
      have HLY : Hid (∀ wi, Below w.heap.size w wi → Lay 3 Dc.cells dcR wi s.p s.l) := Lib.hid (fun wi hb => dcsLay hlay hb)
      have hml : s.l.length ≤ 1048576 := hlay.1
      generalize s.l = m at hcell HV1 HLY hml
      generalize s.p = mp at hcell HLY
      generalize s.cap = mc at hcell
      obtain ⟨tl, htl⟩ : ∃ tl, tl = ((lists2 q).drop (k + 1)).flatMap (·.l) := ⟨_, rfl⟩
      rw [← htl] at HV1
      have HTL := Lib.hid htl
      have hk0 : (0 : Int) ≤ (k : Int) := Int.natCast_nonneg _
      have hk1 : (k : Int) < 2 := by omega
      clear hlay hrest HV htl
      go_wp2_with fail
      obtain ⟨wo, rfl⟩ : ∃ wo : World, wo = wr := ⟨_, rfl⟩
      go_loopw [26] (fun i wr => ∃ (j : Nat) (hd : List Dc), i = .int .i64 j ∧ j ≤ m.length ∧ Hid (FrInv sn q M w wr hd (m.drop j ++ tl))) (fun i _ => m.length - (intOf i).toNat)
      case atStart => exact ⟨0, hd, rfl, Nat.zero_le _, HV1⟩
      case round =>
        clear HV1 hcell
        obtain ⟨j, hd, rfl, hj, HV⟩ := hrel
        by_cases hjl : j < m.length
        · obtain ⟨b, o, rfl, hrg, hdc⟩ := (HLY.out wr HV.out.below).at_ hjl
          have HV2 : Hid (FrInv sn q M w wr hd (m[j] :: (m.drop (j + 1) ++ tl))) := Lib.hid (by have := HV.out; rwa [List.drop_eq_getElem_cons hjl] at this)
          generalize hdd : m[j] = d at hrg hdc HV2
          clear hdd HV
          have HRG : Hid (wr.rangeAt b (o + j * 3) (#[.string d.type, .string d.name, .int .i64 d.pos] : Array Value).toList) := Lib.hid hrg
          have HNB : Hid (Bk (wr.alloc (.cells #[.string d.type, .string d.name, .int .i64 d.pos] 46)) wr.heap.size 46 #[.string d.type, .string d.name, .int .i64 d.pos]) := Lib.hid (heap_alloc_new _ _)
          have HV3 : Hid (FrInv sn q M w (wr.alloc (.cells #[.string d.type, .string d.name, .int .i64 d.pos] 46)) hd (d :: (m.drop (j + 1) ++ tl))) := Lib.hid (HV2.out.fresh ((Gr.refl wr (fun _ => False)).alloc _))
          have HC : Hid (Calls Try.prog 36 #[tptr M, .map (some (w.heap.size + 1)), .agg #[.string d.type, .string d.name, .int .i64 d.pos]] (wr.alloc (.cells #[.string d.type, .string d.name, .int .i64 d.pos] 46)) (DePost sn (dNames hd) d (w.heap.size + 1) (wr.alloc (.cells #[.string d.type, .string d.name, .int .i64 d.pos] 46)))) :=
            Lib.hid (declare_any d sn (dNames hd) M (w.heap.size + 1) _ hdc (by have := HM.out; omega) (by have := HM.out; omega) ((HV3.out.below.cell (p := ⟨M + 4, 0, none⟩) HM.out).trans H0.out) (HS.out.below HV3.out.below (by have := HM.out; omega)) HV3.out.roll)
          unfold tptr at HC
          have HWR : Hid (w.heap.size + 1 < wr.heap.size) := Lib.hid HV2.out.roll.lt
          have n0 : (0 : Int) ≤ (j : Int) := Int.natCast_nonneg _
          have n1 : (j : Int) < (m.length : Int) := by omega
          clear hrg hdc HV2
          go_wp2_with (first | ((with_reducible show wpList _ _ _ (Oper.mk (some 29) _ _ _ _ _ :: _) _ _); refine wpList_load_arr rfl 46 (.tmp 28) rfl b (o + j * 3) rfl #[.string d.type, .string d.name, .int .i64 d.pos] _ HRG.out Try.underlying46 rfl size46 ?_) | ((with_reducible show wpList _ _ _ (Oper.mk none (Op.store _ _ _) _ _ _ _ :: _) _ _); refine wpList_store_new rfl 46 (.tmp 10) (.tmp 29) rfl _ #[.string d.type, .string d.name, .int .i64 d.pos] rfl rfl size46 rfl rfl ?_) | ((with_reducible show wpList _ _ _ (Oper.mk (some 33) _ _ _ _ _ :: _) _ _); refine wpList_load_arr rfl 46 (.tmp 10) rfl wr.heap.size 0 rfl #[.string d.type, .string d.name, .int .i64 d.pos] _ (fun i u hu => by rw [Nat.zero_add]; exact (HNB.out.cell i).trans (by simpa using hu)) Try.underlying46 rfl size46 ?_))
          generalize wr.alloc (.cells #[.string d.type, .string d.name, .int .i64 d.pos] 46) = wB at HNB HV3 HC ⊢
          refine HC.out.mono ?_; rintro en w2 hp
          have HP := Lib.hid hp
          obtain ⟨rfl, _, hg2⟩ := hp
          have HNB2 : Hid (Bk w2 wr.heap.size 46 #[.string d.type, .string d.name, .int .i64 d.pos]) := Lib.hid (hg2.bk HNB.out (by have := HWR.out; omega))
          have HBL2 : Hid (Below w.heap.size w w2) := Lib.hid (HV3.out.below.trans (hg2.below (N := w.heap.size) HV3.out.below.size (fun k h => by omega)))
          clear hg2
          by_cases he : declE sn (dNames hd) d = 0
          · have HIN : Hid (FrInv sn q M w w2 (hd ++ [d]) (m.drop (j + 1) ++ tl)) := Lib.hid (HV3.out.step HP.out he)
            rw [he]
            clear he
            go_wp2_with fail
            go_roundw
            case rel => exact ⟨j + 1, _, by go_num, by omega, HIN⟩
            case measure => simp [intOf]; omega
          · have hne := declE_ne he
            have HX := Lib.hid he
            have HFE : Hid (declsGo sn [] (frameOf q) = (d.pos, declE sn (dNames hd) d)) := Lib.hid (by rw [HV3.out.go, declsGo_cons, if_neg he])
            have d2 : w2.cell? ⟨wr.heap.size, 2, none⟩ = some (.int .i64 d.pos) := HNB2.out.cell 2
            clear he
            go_wp2_with fail
            go_ret2
            exact ⟨by rw [HFE.out]; rfl, HBL2.out⟩
        · have HIN : Hid (FrInv sn q M w wr hd (((lists2 q).drop (k + 1)).flatMap (·.l))) := Lib.hid (by have := HV.out; rwa [List.drop_eq_nil_of_le (by omega), List.nil_append, HTL.out] at this)
          go_wp2_with fail
          go_roundw
          case rel => exact ⟨k + 1, hd, by go_num, by omega, HIN⟩
          case measure => simp [intOf]; omega
    · have HG : Hid (declsGo sn [] (frameOf q) = (0, 0)) := Lib.hid (by
        have := HV.out.go
        rw [List.drop_eq_nil_of_le (by simp [lists2]; omega)] at this
        rw [this]; rfl)
      go_wp2_with fail
      go_ret2
      exact ⟨by rw [HG.out]; rfl, HV.out.below⟩
end Go.Proofs.Ytjkgkigfmcegoaa
