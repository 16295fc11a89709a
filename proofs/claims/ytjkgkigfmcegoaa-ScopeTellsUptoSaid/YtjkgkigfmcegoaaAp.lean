/-
  DERIVED. The walk of the procedures' addition.
-/
import Derived.Test.YtjkgkigfmcegoaaCf
namespace Go.Proofs.Ytjkgkigfmcegoaa
open Go.RowKit Go.Sort Go.Maps

def pNames (l : List Pc) : List ByteArray := l.map (·.name)
theorem pNames_take {l : List Pc} {k : Nat} (h : k < l.length) : pNames (l.take (k + 1)) = pNames (l.take k) ++ [l[k].name] := by
  show (l.take (k + 1)).map _ = _
  rw [List.take_succ_eq_append_getElem h, List.map_append]; rfl
theorem procsGo_cons (sn hv : List ByteArray) (q : Pc) (r : List Pc) : procsGo sn hv (q :: r) = if addE 16 hv q.name = 0 then (if (declsGo sn [] (frameOf q)).2 = 0 then procsGo sn (hv ++ [q.name]) r else declsGo sn [] (frameOf q)) else (q.pos, addE 16 hv q.name) := by
  rw [procsGo]; unfold addE
  split
  · rfl
  · split
    · rfl
    · rfl
/-- What adding the procedures leaves. -/
def PsPost (sn : List ByteArray) (M : Nat) (w : World) (l : List Pc) (en : Ending) (w' : World) : Prop :=
  en = .returned (.tuple #[.int .i64 (procsGo sn [] l).1, .int .i64 (procsGo sn [] l).2]) ∧ ((procsGo sn [] l).2 = 0 → Roll byName w' (M + 3) (pNames l)) ∧ Gr w w' (fun k => k = M + 3)

set_option maxHeartbeats 3200000 in
set_option maxRecDepth 100000 in
theorem addProcs_any (p : Option Addr) (l : List Pc) (c M : Nat) (e v : Value) (sn : List ByteArray) (w : World) (hM : M + 4 < w.heap.size) (hlen : l.length ≤ 1048576) (hL : ∀ wr, Gr w wr (fun k => k = M + 3) → Lay 6 Pc.cells pcLies wr p l)
    (hT : Bk w (M + 4) 57 (tcells M e v)) (hS : Roll byName w M sn) (hR : Roll byName w (M + 3) []) :
    Calls Try.prog 22 #[tptr M, .slice p l.length c] w (PsPost sn M w l) := by
  have HL := Lib.hid hL
  have HT := Lib.hid hT
  have HR := Lib.hid hR
  have HS := Lib.hid hS
  have HM := Lib.hid hM
  clear hL hT hS hR hM
  unfold tptr
  go_enter Try.func22, Try.ntmps22
  go_wp2_with fail
  go_loopw [13] (fun i wr => ∃ k : Nat, i = .int .i64 k ∧ k ≤ l.length ∧ Hid (procsGo sn [] l = procsGo sn (pNames (l.take k)) (l.drop k)) ∧ Hid (Roll byName wr (M + 3) (pNames (l.take k))) ∧ Hid (Gr w wr (fun k => k = M + 3))) (fun i _ => l.length - (intOf i).toNat)
  case atStart => exact ⟨0, rfl, Nat.zero_le _, Lib.hid rfl, HR, Lib.hid (Gr.refl _ _)⟩
  case round =>
    obtain ⟨k, rfl, hk, HG, HRO, HGR⟩ := hrel
    by_cases hkl : k < l.length
    · obtain ⟨b, o, rfl, hrg, hsr⟩ := (HL.out wr HGR.out).at_ hkl
      have hst : procsGo sn [] l = if addE 16 (pNames (l.take k)) l[k].name = 0 then (if (declsGo sn [] (frameOf l[k])).2 = 0 then procsGo sn (pNames (l.take k) ++ [l[k].name]) (l.drop (k + 1)) else declsGo sn [] (frameOf l[k])) else (l[k].pos, addE 16 (pNames (l.take k)) l[k].name) := by
        rw [HG.out, List.drop_eq_getElem_cons hkl, procsGo_cons]
      have hnx := pNames_take hkl
      have HQK : Hid (∀ wi, Gr w wi (fun k => k = M + 3) → pcLies wi l[k]) := Lib.hid (fun wi hi => by
        obtain ⟨_, _, _, _, h⟩ := (HL.out wi hi).at_ hkl
        exact h)
      generalize hs : l[k] = q at hrg hsr hst hnx HQK
      clear hs
      obtain ⟨cs, hcs⟩ : ∃ cs : Array Value, cs = #[.string q.name, .int .i64 q.pos, .int .i64 q.fin, .slice q.params.p q.params.l.length q.params.cap, .slice q.locals_.p q.locals_.l.length q.locals_.cap, .slice q.bp q.body.len q.bc] := ⟨_, rfl⟩
      have HCS := Lib.hid hcs
      have HRG : Hid (wr.rangeAt b (o + k * 6) cs.toList) := Lib.hid (by rw [hcs]; exact hrg)
      have HSZ : Hid ((Try.prog.info? 49).map (·.size) = some cs.size) := Lib.hid (by rw [hcs]; exact size49)
      have HZ : Hid (6 = cs.size) := Lib.hid (by rw [hcs]; rfl)
      have HON : Hid (cs.all (·.oneCell') = true) := Lib.hid (by rw [hcs]; simp [Value.oneCell'])
      have HNB : Hid (Bk (wr.alloc (.cells cs 49)) wr.heap.size 49 cs) := Lib.hid (heap_alloc_new _ _)
      have hT1 : Bk (wr.alloc (.cells cs 49)) (M + 4) 57 (tcells M e v) := (HGR.out.alloc _).bk HT.out (by omega)
      have HT1 := Lib.hid hT1
      have e0 : (wr.alloc (.cells cs 49)).cell? ⟨wr.heap.size, 0, none⟩ = some (.string q.name) := (HNB.out.cell 0).trans (by rw [hcs]; rfl)
      have t0 : (wr.alloc (.cells cs 49)).cell? ⟨M + 4, 5, none⟩ = some (.map (some (M + 3))) := hT1.cell 5
      have HG1 : Hid (Gr w (wr.alloc (.cells cs 49)) (fun k => k = M + 3)) := Lib.hid (HGR.out.alloc _)
      have HS1 : Hid (Roll byName (wr.alloc (.cells cs 49)) M sn) := Lib.hid (HG1.out.roll HS.out (by omega))
      have HA : Hid (Calls Try.prog 34 #[.map (some (M + 3)), .string q.name, .int .i64 16] (wr.alloc (.cells cs 49)).drew (Added byName 16 (wr.alloc (.cells cs 49)).drew (M + 3) (pNames (l.take k)) q.name)) :=
        Lib.hid (addN_any q.name (M + 3) 16 _ _ ((HRO.out.kept (World.grownBy_alloc wr (.cells cs 49) none) (by simp)).same rfl) hsr.2.2.2 (by decide))
      have HX := Lib.hid hst
      have HNX := Lib.hid hnx
      have HMw : Hid (M + 4 < wr.heap.size) := Lib.hid (Nat.lt_of_lt_of_le HM.out HGR.out.size)
      have hk0 : (0 : Int) ≤ (k : Int) := Int.natCast_nonneg _
      have hk1 : (k : Int) < (l.length : Int) := by omega
      clear hst hnx hrg hsr hT1 hcs
      go_wp2_with (first | ((with_reducible show wpList _ _ _ (Oper.mk (some 16) _ _ _ _ _ :: _) _ _); refine wpList_load_arr rfl 49 (.tmp 15) rfl b (o + k * 6) rfl cs _ HRG.out Try.underlying49 rfl HSZ.out ?_) | ((with_reducible show wpList _ _ _ (Oper.mk none (Op.store _ _ _) _ _ _ _ :: _) _ _); refine wpList_store_new rfl 49 (.tmp 7) (.tmp 16) rfl _ cs rfl rfl HSZ.out HZ.out HON.out ?_))
      have HWB : Hid (wr.heap.size < (wr.alloc (.cells cs 49)).heap.size) := Lib.hid (by simp)
      generalize wr.alloc (.cells cs 49) = wB at t0 e0 HG1 HA HNB HT1 HS1 HWB ⊢
      go_still_tail 6, (by kernel_rfl)
      change wpList _ _ _ _ _ wB.drew
      go_wp2_with fail
      refine HA.out.mono ?_; rintro en w2 ⟨rfl, hr2, hg2⟩
      have HR2 := Lib.hid hr2
      have HN2 : Hid (Gr wB w2 (fun k => k = M + 3)) := Lib.hid ((Gr.refl wB _).drew.grown hg2 (fun i _ e => by injection e))
      have HG2 : Hid (Gr w w2 (fun k => k = M + 3)) := Lib.hid (HG1.out.trans HN2.out)
      have HNB2 : Hid (Bk w2 wr.heap.size 49 cs) := Lib.hid (HN2.out.bk HNB.out (by have := HMw.out; omega))
      clear hr2 hg2 t0 e0
      by_cases he : addE 16 (pNames (l.take k)) q.name = 0
      · have HE : Hid (addE 16 (pNames (l.take k)) q.name = 0) := Lib.hid he
        have HT2 : Hid (Bk w2 (M + 4) 57 (tcells M e v)) := Lib.hid (HN2.out.bk HT1.out (by omega))
        have HQ2 : Hid (pcLies w2 q) := Lib.hid (HQK.out w2 HG2.out)
        have HF : Hid (Calls Try.prog 37 #[tptr M, .agg #[.string q.name, .int .i64 q.pos, .int .i64 q.fin, .slice q.params.p q.params.l.length q.params.cap, .slice q.locals_.p q.locals_.l.length q.locals_.cap, .slice q.bp q.body.len q.bc]] w2 (FrPost sn q w2)) :=
          Lib.hid (checkFrame_any q M sn w2 HQ2.out HT2.out.lt (HT2.out.cell 0) (HN2.out.roll HS1.out (by omega)))
        unfold tptr at HF
        rw [← HCS.out] at HF
        rw [he]
        clear he
        go_wp2_with (first | ((with_reducible show wpList _ _ _ (Oper.mk (some 31) _ _ _ _ _ :: _) _ _); refine wpList_load_arr rfl 49 (.tmp 7) rfl wr.heap.size 0 rfl cs _ (fun i u hu => by rw [Nat.zero_add]; exact (HNB2.out.cell i).trans (by simpa using hu)) Try.underlying49 rfl HSZ.out ?_))
        refine HF.out.mono ?_; rintro en w3 ⟨rfl, hb3⟩
        have HG3 : Hid (Gr w w3 (fun k => k = M + 3)) := Lib.hid (HG2.out.trans (Gr.of_below hb3))
        have HR3 : Hid (Roll byName w3 (M + 3) (addL 16 (pNames (l.take k)) q.name)) := Lib.hid (HR2.out.below hb3 HR2.out.lt)
        clear hb3
        by_cases he2 : (declsGo sn [] (frameOf q)).2 = 0
        · have HE2 := Lib.hid he2
          rw [he2]
          clear he2
          go_wp2_with fail
          go_roundw
          case rel =>
            refine ⟨k + 1, by go_num, by omega, Lib.hid ?_, Lib.hid ?_, HG3⟩
            · rw [HX.out, if_pos HE.out, if_pos HE2.out, HNX.out]
            · have := HR3.out
              unfold addL at this
              rw [if_pos HE.out] at this
              rw [HNX.out]; exact this
          case measure => simp [intOf]; omega
        · have hne : ((declsGo sn [] (frameOf q)).2 != 0) = true := by rw [bne_iff_ne]; exact he2
          have HE2 := Lib.hid he2
          clear he2
          go_wp2_with fail
          go_ret2
          exact ⟨by rw [HX.out, if_pos HE.out, if_neg HE2.out]; rfl, fun h => absurd (by rw [HX.out, if_pos HE.out, if_neg HE2.out] at h; exact h) HE2.out, HG3.out⟩
      · have hne := addE_pos he
        have HE := Lib.hid he
        have d1 : w2.cell? ⟨wr.heap.size, 1, none⟩ = some (.int .i64 q.pos) := (HNB2.out.cell 1).trans (by rw [HCS.out]; rfl)
        clear he
        go_wp2_with fail
        go_ret2
        exact ⟨by rw [HX.out, if_neg HE.out]; rfl, fun h => absurd (by rw [HX.out, if_neg HE.out] at h; exact h) HE.out, HG2.out⟩
    · have HF : Hid (procsGo sn [] l = (0, 0)) := Lib.hid (by rw [HG.out, List.drop_eq_nil_of_le (by omega)]; rfl)
      have HRF : Hid (Roll byName wr (M + 3) (pNames l)) := Lib.hid (by have := HRO.out; rwa [List.take_of_length_le (by omega)] at this)
      go_wp2_with fail
      go_ret2
      exact ⟨by rw [HF.out]; rfl, fun _ => HRF.out, HGR.out⟩
end Go.Proofs.Ytjkgkigfmcegoaa
