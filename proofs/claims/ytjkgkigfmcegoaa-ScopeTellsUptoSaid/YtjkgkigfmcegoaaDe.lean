/-
  DERIVED. The walk of a variable's declaration.
-/
import Derived.Test.YtjkgkigfmcegoaaAs
namespace Go.Proofs.Ytjkgkigfmcegoaa
open Go.RowKit Go.Sort Go.Maps

def declE (sn hv : List ByteArray) (d : Dc) : Int := if addE 16 hv d.name = 0 then (if tyOk sn d.type = true then 0 else 8) else addE 16 hv d.name
theorem declsGo_cons (sn hv : List ByteArray) (d : Dc) (r : List Dc) : declsGo sn hv (d :: r) = if declE sn hv d = 0 then declsGo sn (hv ++ [d.name]) r else (d.pos, declE sn hv d) := by
  rw [declsGo]; unfold declE addE
  split
  · rfl
  · split
    · rfl
    · split
      · rfl
      · rfl
theorem declE_add {sn hv : List ByteArray} {d : Dc} (h : declE sn hv d = 0) : addE 16 hv d.name = 0 := by
  unfold declE at h
  split at h
  · assumption
  · exact h
/-- The type that a declaration tells. -/
def declV (sn hv : List ByteArray) (d : Dc) : Int := if declE sn hv d = 0 then kindOf sn d.type else 0
/-- What a declaration leaves. -/
def DePost (sn hv : List ByteArray) (d : Dc) (B : Nat) (w : World) (en : Ending) (w' : World) : Prop :=
  en = .returned (.tuple #[.int .i64 (declV sn hv d), .int .i64 (declE sn hv d)]) ∧ Roll byName w' B (addL 16 hv d.name) ∧ Gr w w' (· = B)

set_option maxHeartbeats 1600000 in
set_option maxRecDepth 100000 in
theorem declare_any (d : Dc) (sn hv : List ByteArray) (M B : Nat) (w : World) (hd : dcOk d) (hM : B ≠ M) (hM4 : B ≠ M + 4) (h0 : w.cell? ⟨M + 4, 0, none⟩ = some (.map (some M))) (hS : Roll byName w M sn) (hR : Roll byName w B hv) :
    Calls Try.prog 36 #[tptr M, .map (some B), .agg #[.string d.type, .string d.name, .int .i64 d.pos]] w (DePost sn hv d B w) := by
  have hl0 : M + 4 < w.heap.size := World.block_lt_of_cell? w _ h0
  have HG1 : Hid (Gr w (w.alloc (.cells #[.string d.type, .string d.name, .int .i64 d.pos] 46)) (· = B)) := Lib.hid ((Gr.refl _ _).alloc _)
  have h0' : (w.alloc (.cells #[.string d.type, .string d.name, .int .i64 d.pos] 46)).cell? ⟨M + 4, 0, none⟩ = some (.map (some M)) := (World.cell?_of_block (a := ⟨M + 4, 0, none⟩) (HG1.out.block _ hl0 (Ne.symm hM4))).trans h0
  have HS1 : Hid (Roll byName (w.alloc (.cells #[.string d.type, .string d.name, .int .i64 d.pos] 46)) M sn) := Lib.hid (HG1.out.roll hS (Ne.symm hM))
  have HR1 : Hid (Roll byName (w.alloc (.cells #[.string d.type, .string d.name, .int .i64 d.pos] 46)) B hv) := Lib.hid (hR.kept (World.grownBy_alloc _ _ none) (by simp))
  have k0 : (w.alloc (.cells #[.string d.type, .string d.name, .int .i64 d.pos] 46)).cell? ⟨w.heap.size, 0, none⟩ = some (.string d.type) := World.cell?_alloc_at _ _ _ _ rfl
  have k1 : (w.alloc (.cells #[.string d.type, .string d.name, .int .i64 d.pos] 46)).cell? ⟨w.heap.size, 1, none⟩ = some (.string d.name) := World.cell?_alloc_at _ _ _ _ rfl
  have HB : Hid (B < w.heap.size) := Lib.hid hR.lt
  have HA : Hid (Calls Try.prog 34 #[.map (some B), .string d.name, .int .i64 16] (w.alloc (.cells #[.string d.type, .string d.name, .int .i64 d.pos] 46)) (Added byName 16 (w.alloc (.cells #[.string d.type, .string d.name, .int .i64 d.pos] 46)) B hv d.name)) :=
    Lib.hid (addN_any d.name B 16 hv _ HR1.out hd.2 (by decide))
  have HD := Lib.hid hd
  have HM := Lib.hid hM
  have HM4 := Lib.hid hM4
  have H0 := Lib.hid h0'
  have HK0 := Lib.hid k0
  clear hd hM hM4 h0 hS hR h0' k0 hl0
  unfold tptr
  go_enter Try.func36, Try.ntmps36
  go_wp2_with fail
  generalize w.alloc (.cells #[.string d.type, .string d.name, .int .i64 d.pos] 46) = wB at HG1 HS1 HR1 k1 HA H0 HK0 ⊢
  refine HA.out.mono ?_; rintro en w2 ⟨rfl, hr2, hg2⟩
  have HR2 := Lib.hid hr2
  have HG2 : Hid (Gr w w2 (· = B)) := Lib.hid (HG1.out.grown hg2 (fun i _ e => by injection e))
  by_cases he : addE 16 hv d.name = 0
  · have h0 : w2.cell? ⟨M + 4, 0, none⟩ = some (.map (some M)) := hg2.cell H0.out (by intro e; injection e with e; exact HM4.out e.symm)
    have g0 : w2.cell? ⟨w.heap.size, 0, none⟩ = some (.string d.type) := hg2.cell HK0.out (by intro e; injection e with e; have e' : w.heap.size = B := e; have := HB.out; omega)
    have hS2 : Roll byName w2 M sn := HS1.out.kept hg2 (by intro e; injection e with e; exact HM.out e.symm)
    have HT := Lib.hid (type_any d.type (M + 4) M sn w2 h0 hS2 HD.out.1)
    have HX : Hid (addE 16 hv d.name = 0) := Lib.hid he
    rw [he]
    clear he hr2 hg2 h0 hS2
    cases hty : tyOk sn d.type
    · have HE : Hid (declE sn hv d = 8) := Lib.hid (by unfold declE; rw [if_pos HX.out, hty]; rfl)
      rw [hty] at HT
      clear hty
      go_wp2_with (go_at_call 14; refine HT.out.mono ?_; rintro e w' ⟨rfl, rfl⟩)
      go_ret2
      exact ⟨by unfold declV; rw [HE.out]; rfl, HR2.out, HG2.out⟩
    · have HE : Hid (declE sn hv d = 0) := Lib.hid (by unfold declE; rw [if_pos HX.out, hty]; rfl)
      rw [hty] at HT
      clear hty
      go_wp2_with (go_at_call 14; refine HT.out.mono ?_; rintro e w' ⟨rfl, rfl⟩)
      go_ret2
      exact ⟨by unfold declV; rw [HE.out]; rfl, HR2.out, HG2.out⟩
  · have hne := addE_pos he
    have HE : Hid (declE sn hv d = addE 16 hv d.name) := Lib.hid (by unfold declE; rw [if_neg he])
    have HX := Lib.hid he
    clear he hr2 hg2
    go_wp2_with fail
    go_ret2
    exact ⟨by unfold declV; rw [HE.out, if_neg HX.out]; rfl, HR2.out, HG2.out⟩
end Go.Proofs.Ytjkgkigfmcegoaa
