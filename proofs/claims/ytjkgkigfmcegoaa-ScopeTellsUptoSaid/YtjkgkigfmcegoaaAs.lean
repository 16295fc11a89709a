/-
  DERIVED. The walk of the structs' names.
-/
import Derived.Test.YtjkgkigfmcegoaaAc
namespace Go.Proofs.Ytjkgkigfmcegoaa
open Go.RowKit Go.Sort Go.Maps

theorem addE_cases {κ : Type} [DecidableEq κ] (most : Nat) (l : List κ) (x : κ) : addE most l x = 0 ∨ addE most l x = 7 ∨ addE most l x = 11 := by
  unfold addE; split
  · exact .inr (.inr rfl)
  · split
    · exact .inr (.inl rfl)
    · exact .inl rfl
theorem addE_pos {κ : Type} [DecidableEq κ] {most : Nat} {l : List κ} {x : κ} (h : addE most l x ≠ 0) : (addE most l x != 0) = true := by rw [bne_iff_ne]; exact h
theorem structsGo_cons (hv : List ByteArray) (s : Sr) (r : List Sr) : structsGo hv (s :: r) = if addE 8 hv s.name = 0 then structsGo (hv ++ [s.name]) r else (s.pos, addE 8 hv s.name) := by
  rw [structsGo]; unfold addE
  split
  · rfl
  · split
    · rfl
    · rfl
theorem sNames_take {l : List Sr} {k : Nat} (h : k < l.length) : sNames (l.take (k + 1)) = sNames (l.take k) ++ [l[k].name] := by
  show (l.take (k + 1)).map _ = _
  rw [List.take_succ_eq_append_getElem h, List.map_append]; rfl

theorem size44 : (Try.prog.info? 44).map (·.size) = some 3 := by kernel_rfl
theorem size46 : (Try.prog.info? 46).map (·.size) = some 3 := by kernel_rfl
theorem size49 : (Try.prog.info? 49).map (·.size) = some 6 := by kernel_rfl

/-- What adding the structs' names leaves. -/
def StPost (M : Nat) (w : World) (l : List Sr) (en : Ending) (w' : World) : Prop :=
  en = .returned (.tuple #[.int .i64 (structsGo [] l).1, .int .i64 (structsGo [] l).2]) ∧ ((structsGo [] l).2 = 0 → Roll byName w' M (sNames l)) ∧ Gr w w' (· = M)

set_option maxHeartbeats 1600000 in
set_option maxRecDepth 100000 in
theorem addStructs_any (p : Option Addr) (l : List Sr) (c M : Nat) (e v : Value) (w : World) (hM : M + 4 < w.heap.size) (hL : Lay 3 Sr.cells srLies w p l) (hLM : Lay 3 Sr.cells srLies w p l → ∀ wr, Gr w wr (· = M) → Lay 3 Sr.cells srLies wr p l) (hT : Bk w (M + 4) 57 (tcells M e v)) (hR : Roll byName w M []) :
    Calls Try.prog 19 #[tptr M, .slice p l.length c] w (StPost M w l) := by
  have hlen := hL.1
  have HLM := Lib.hid (fun wr h => hLM hL wr h)
  have HT := Lib.hid hT
  have HR := Lib.hid hR
  have HM := Lib.hid hM
  clear hL hLM hT hR hM
  unfold tptr
  go_enter Try.func19, Try.ntmps19
  go_wp2_with fail
  go_loopw [11] (fun i wr => ∃ k : Nat, i = .int .i64 k ∧ k ≤ l.length ∧ Hid (structsGo [] l = structsGo (sNames (l.take k)) (l.drop k)) ∧ Hid (Roll byName wr M (sNames (l.take k))) ∧ Hid (Gr w wr (· = M))) (fun i _ => l.length - (intOf i).toNat)
  case atStart => exact ⟨0, rfl, Nat.zero_le _, Lib.hid rfl, HR, Lib.hid (Gr.refl _ _)⟩
  case round =>
    obtain ⟨k, rfl, hk, HG, HRO, HGR⟩ := hrel
    by_cases hkl : k < l.length
    · obtain ⟨b, o, rfl, hrg, hsr⟩ := (HLM.out wr HGR.out).at_ hkl
      have hst : structsGo [] l = if addE 8 (sNames (l.take k)) l[k].name = 0 then structsGo (sNames (l.take k) ++ [l[k].name]) (l.drop (k + 1)) else (l[k].pos, addE 8 (sNames (l.take k)) l[k].name) := by
        rw [HG.out, List.drop_eq_getElem_cons hkl, structsGo_cons]
      have hnx := sNames_take hkl
      generalize hs : l[k] = s at hrg hsr hst hnx
      clear hs
      obtain ⟨cs, hcs⟩ : ∃ cs : Array Value, cs = (Sr.cells s).toArray := ⟨_, rfl⟩
      have HRG : Hid (wr.rangeAt b (o + k * 3) cs.toList) := Lib.hid (by rw [hcs]; exact hrg)
      have HSZ : Hid ((Try.prog.info? 44).map (·.size) = some cs.size) := Lib.hid (by rw [hcs]; exact size44)
      have HZ : Hid (3 = cs.size) := Lib.hid (by rw [hcs]; rfl)
      have HON : Hid (cs.all (·.oneCell') = true) := Lib.hid (by rw [hcs]; simp [Value.oneCell'])
      have d0 : cs[0]? = some (.string s.name) := by rw [hcs]; rfl
      have d1 : cs[1]? = some (.int .i64 s.pos) := by rw [hcs]; rfl
      clear hcs
      have e0 : (wr.alloc (.cells cs 44)).cell? ⟨wr.heap.size, 0, none⟩ = some (.string s.name) := (World.cell?_alloc_at _ _ _ _ rfl).trans d0
      have e1 : (wr.alloc (.cells cs 44)).cell? ⟨wr.heap.size, 1, none⟩ = some (.int .i64 s.pos) := (World.cell?_alloc_at _ _ _ _ rfl).trans d1
      have hT1 : Bk (wr.alloc (.cells cs 44)) (M + 4) 57 (tcells M e v) := (HGR.out.alloc _).bk HT.out (by omega)
      have t0 : (wr.alloc (.cells cs 44)).cell? ⟨M + 4, 0, none⟩ = some (.map (some M)) := hT1.cell 0
      have HG1 : Hid (Gr w (wr.alloc (.cells cs 44)) (· = M)) := Lib.hid (HGR.out.alloc _)
      have HA : Hid (Calls Try.prog 34 #[.map (some M), .string s.name, .int .i64 8] (wr.alloc (.cells cs 44)).drew (Added byName 8 (wr.alloc (.cells cs 44)).drew M (sNames (l.take k)) s.name)) :=
        Lib.hid (addN_any s.name M 8 _ _ ((HRO.out.kept (World.grownBy_alloc wr (.cells cs 44) none) (by simp)).same rfl) hsr.2 (by decide))
      have HS := Lib.hid hst
      have HNX := Lib.hid hnx
      have HE1 := Lib.hid e1
      have HMw : Hid (M < wr.heap.size) := Lib.hid (HRO.out.lt)
      have hk0 : (0 : Int) ≤ (k : Int) := Int.natCast_nonneg _
      have hk1 : (k : Int) < (l.length : Int) := by omega
      clear hst hnx hrg hsr d0 d1 e1 hT1
      go_wp2_with (first | ((with_reducible show wpList _ _ _ (Oper.mk (some 14) _ _ _ _ _ :: _) _ _); refine wpList_load_arr rfl 44 (.tmp 13) rfl b (o + k * 3) rfl cs _ HRG.out Try.underlying44 rfl HSZ.out ?_) | ((with_reducible show wpList _ _ _ (Oper.mk none (Op.store _ _ _) _ _ _ _ :: _) _ _); refine wpList_store_new rfl 44 (.tmp 7) (.tmp 14) rfl _ cs rfl rfl HSZ.out HZ.out HON.out ?_))
      generalize wr.alloc (.cells cs 44) = wB at t0 e0 HG1 HA HE1 ⊢
      go_still_tail 6, (by kernel_rfl)
      change wpList _ _ _ _ _ wB.drew
      go_wp2_with fail
      refine HA.out.mono ?_; rintro en w2 ⟨rfl, hr2, hg2⟩
      have HR2 := Lib.hid hr2
      have HG2 : Hid (Gr w w2 (· = M)) := Lib.hid (HG1.out.drew.grown hg2 (fun i _ e => by injection e))
      have g1 : w2.cell? ⟨wr.heap.size, 1, none⟩ = some (.int .i64 s.pos) := hg2.cell (HE1.out) (by intro e; injection e with e; have e' : wr.heap.size = M := e; have := HMw.out; omega)
      clear hr2 hg2 t0 e0
      by_cases he : addE 8 (sNames (l.take k)) s.name = 0
      · have HX : Hid (addE 8 (sNames (l.take k)) s.name = 0) := Lib.hid he
        rw [he]
        clear he
        go_wp2_with fail
        go_roundw
        case rel =>
          refine ⟨k + 1, by go_num, by omega, Lib.hid ?_, Lib.hid ?_, HG2⟩
          · rw [HS.out, if_pos HX.out, HNX.out]
          · have := HR2.out
            unfold addL at this
            rw [if_pos HX.out] at this
            rw [HNX.out]; exact this
        case measure => simp [intOf]; omega
      · have hne := addE_pos he
        have HX := Lib.hid he
        clear he
        go_wp2_with fail
        go_ret2
        exact ⟨by rw [HS.out, if_neg HX.out]; rfl, fun h => absurd (by rw [HS.out, if_neg HX.out] at h; exact h) HX.out, HG2.out⟩
    · have HF : Hid (structsGo [] l = (0, 0)) := Lib.hid (by rw [HG.out, List.drop_eq_nil_of_le (by omega)]; rfl)
      have HRF : Hid (Roll byName wr M (sNames l)) := Lib.hid (by have := HRO.out; rwa [List.take_of_length_le (by omega)] at this)
      go_wp2_with fail
      go_ret2
      exact ⟨by rw [HF.out]; rfl, fun _ => HRF.out, HGR.out⟩
end Go.Proofs.Ytjkgkigfmcegoaa
