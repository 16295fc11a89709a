/-
  DERIVED. The walks of a roll's add and find.
-/
import Derived.Test.YtjkgkigfmcegoaaSp
import Derived.Deep.QuietTactic
import Derived.Maps.AppendAt
namespace Go.Proofs.Ytjkgkigfmcegoaa
open Go.RowKit Go.Maps

/-- What an addition says. -/
def addE {κ : Type} [DecidableEq κ] (most : Nat) (l : List κ) (x : κ) : Int := if most ≤ l.length then 11 else if isIn l x = true then 7 else 0
def addL {κ : Type} [DecidableEq κ] (most : Nat) (l : List κ) (x : κ) : List κ := if addE most l x = 0 then l ++ [x] else l
/-- A roll behind an addition. -/
def Added {K : TypeId} {κ : Type} [DecidableEq κ] (g : Keying K κ) (most : Nat) (w : World) (b : Nat) (l : List κ) (x : κ) (en : Ending) (w' : World) : Prop :=
  en = .returned (.int .i64 (addE most l x)) ∧ Roll g w' b (addL most l x) ∧ w.grownBy w' (some b)
theorem grown_refl (w : World) (r : Option Nat) : w.grownBy w r := ⟨rfl, rfl, rfl, Nat.le_refl _, fun _ _ _ => rfl⟩


set_option maxHeartbeats 800000 in
set_option maxRecDepth 100000 in
theorem findN_any (x : ByteArray) (b : Nat) (l : List (ByteArray)) (w : World) (h : Roll byName w b l) (hx : byName.ok x) :
    Calls Try.prog 31 #[.map (some b), .string x] w fun en w' => en = .returned (.tuple #[.int .i64 (numOf l x), .bool (isIn l x)]) ∧ w = w' := by
  obtain ⟨D, hown, hr⟩ := h
  have hkey := byName.key x hx
  have hnum := hr.num hx
  have hhas := hr.hasB hx
  have HN := Lib.hid hnum
  have HH := Lib.hid hhas
  clear hnum hhas hr
  go_enter Try.func31, Try.ntmps31
  go_wp2_with (first | (at_lookup; refine wpList_lookup_own_ok_int (H := Unit) _ rfl _ _ 52 rfl 9 3 .i64 byName.law Try.underlying52 Try.underlying3 (zero3 _) b l.length D rfl hown _ _ rfl hkey ?_; intro c hat hwc; have HA := Lib.hid hat; clear hat hwc; rw [HH.out]))
  go_ret2
  have e : c = numOf l x := by
    have h1 := HA.out
    rw [HN.out] at h1
    injection h1 with h1
    injection h1 with _ h1
    exact h1.symm
  exact ⟨by rw [e]; rfl, rfl⟩

set_option maxHeartbeats 800000 in
set_option maxRecDepth 100000 in
theorem addN_any (x : ByteArray) (b most : Nat) (l : List (ByteArray)) (w : World) (h : Roll byName w b l) (hx : byName.ok x) (hm : most ≤ 100) :
    Calls Try.prog 34 #[.map (some b), .string x, .int .i64 most] w (Added byName most w b l x) := by
  obtain ⟨D, hown, hr⟩ := h
  have hkey := byName.key x hx
  have hsz := hr.size
  have hhas := hr.hasB hx
  have HS := Lib.hid hsz
  have HH := Lib.hid hhas
  have HR := Lib.hid hr
  have HX := Lib.hid hx
  have HO := Lib.hid hown
  have HY := Lib.hid hkey
  clear hsz hhas hr hx hown hkey
  by_cases h1 : most ≤ l.length
  · have hd : decide (l.length < most) = false := by simp; omega
    have HE : Hid (addE most l x = 11) := Lib.hid (if_pos h1)
    go_enter Try.func34, Try.ntmps34
    go_wp2_with (first | (at_len; refine wpList_len_own (H := Unit) _ rfl _ 52 rfl 9 3 Try.underlying52 (plainElem Try.prog 3) b l.length D rfl HO.out ?_; rw [HS.out]))
    go_ret
    refine ⟨by rw [HE.out]; rfl, ?_, grown_refl _ _⟩
    unfold addL
    rw [HE.out, if_neg (by decide)]
    exact ⟨D, HO.out, HR.out⟩
  · have hlt : l.length < most := by omega
    clear h1
    cases h2 : isIn l x
    · have HE : Hid (addE most l x = 0) := Lib.hid (by unfold addE; rw [if_neg (by omega), h2]; rfl)
      have HD : Hid (isIn l x = false) := Lib.hid h2
      have HN := Lib.hid (HR.out.add HX.out (isIn_not.1 h2))
      have hwf : (Lit.int .i64 (l.length : Int)).wf = true := WalkArith.wf_i64 (by omega)
      clear h2
      go_enter Try.func34, Try.ntmps34
      go_wp2_with (first | (at_len; refine wpList_len_own (H := Unit) _ rfl _ 52 rfl 9 3 Try.underlying52 (plainElem Try.prog 3) b l.length D rfl HO.out ?_; rw [HS.out]) | (at_lookup; refine wpList_lookup_own_ok_int (H := Unit) _ rfl _ _ 52 rfl 9 3 .i64 byName.law Try.underlying52 Try.underlying3 (zero3 _) b l.length D rfl HO.out _ _ rfl HY.out ?_; intro c hat hwc; clear hat hwc; rw [HH.out, HD.out]) | (at_mapUpdate; refine wpList_mapUpdate_own (H := Unit) _ rfl _ _ _ 52 rfl 9 3 byName.law Try.underlying52 _ b l.length _ rfl HO.out (by unfold maxLen; omega) _ _ _ rfl rfl HY.out _ [] (plainElem_int Try.underlying3 hwf) ?_; intro w1 hown1 hgrow1; have HO1 := Lib.hid hown1; have HG1 := Lib.hid hgrow1; clear hown1 hgrow1))
      go_ret
      refine ⟨by rw [HE.out]; rfl, ?_, HG1.out⟩
      unfold addL
      rw [HE.out, if_pos rfl]
      exact ⟨_, by simpa using HO1.out, HN.out⟩
    · have HE : Hid (addE most l x = 7) := Lib.hid (by unfold addE; rw [if_neg (by omega), if_pos h2])
      have HD : Hid (isIn l x = true) := Lib.hid h2
      clear h2
      go_enter Try.func34, Try.ntmps34
      go_wp2_with (first | (at_len; refine wpList_len_own (H := Unit) _ rfl _ 52 rfl 9 3 Try.underlying52 (plainElem Try.prog 3) b l.length D rfl HO.out ?_; rw [HS.out]) | (at_lookup; refine wpList_lookup_own_ok_int (H := Unit) _ rfl _ _ 52 rfl 9 3 .i64 byName.law Try.underlying52 Try.underlying3 (zero3 _) b l.length D rfl HO.out _ _ rfl HY.out ?_; intro c hat hwc; clear hat hwc; rw [HH.out, HD.out]))
      go_ret
      refine ⟨by rw [HE.out]; rfl, ?_, grown_refl _ _⟩
      unfold addL
      rw [HE.out, if_neg (by decide)]
      exact ⟨D, HO.out, HR.out⟩

set_option maxHeartbeats 800000 in
set_option maxRecDepth 100000 in
theorem findM_any (x : Int × ByteArray) (b : Nat) (l : List (Int × ByteArray)) (w : World) (h : Roll byMember w b l) (hx : byMember.ok x) :
    Calls Try.prog 33 #[.map (some b), .agg #[.int .i64 x.1, .string x.2]] w fun en w' => en = .returned (.tuple #[.int .i64 (numOf l x), .bool (isIn l x)]) ∧ Below w.heap.size w w' := by
  obtain ⟨D, hown, hr⟩ := h
  have hkey := byMember.key x hx
  have hnum := hr.num hx
  have hhas := hr.hasB hx
  have HN := Lib.hid hnum
  have HH := Lib.hid hhas
  clear hnum hhas hr
  go_enter Try.func33, Try.ntmps33
  go_wp2_with (first | (at_lookup; refine wpList_lookup_own_ok_int (H := Unit) _ rfl _ _ 54 rfl 79 3 .i64 byMember.law Try.underlying54 Try.underlying3 (zero3 _) b l.length D rfl (hown.alloc _) _ _ rfl hkey ?_; intro c hat hwc; have HA := Lib.hid hat; clear hat hwc; rw [HH.out]))
  go_ret2
  have e : c = numOf l x := by
    have h1 := HA.out
    rw [HN.out] at h1
    injection h1 with h1
    injection h1 with _ h1
    exact h1.symm
  exact ⟨by rw [e]; rfl, (Below.refl _ _).alloc (Nat.le_refl _) _⟩

set_option maxHeartbeats 800000 in
set_option maxRecDepth 100000 in
theorem addM_any (x : Int × ByteArray) (b most : Nat) (l : List (Int × ByteArray)) (w : World) (h : Roll byMember w b l) (hx : byMember.ok x) (hm : most ≤ 100) :
    Calls Try.prog 38 #[.map (some b), .agg #[.int .i64 x.1, .string x.2], .int .i64 most] w (Added byMember most w b l x) := by
  obtain ⟨D, hown, hr⟩ := h
  have hkey := byMember.key x hx
  have hsz := hr.size
  have hhas := hr.hasB hx
  have HS := Lib.hid hsz
  have HH := Lib.hid hhas
  have HR := Lib.hid hr
  have HX := Lib.hid hx
  have HO := Lib.hid hown
  have HY := Lib.hid hkey
  clear hsz hhas hr hx hown hkey
  by_cases h1 : most ≤ l.length
  · have hd : decide (l.length < most) = false := by simp; omega
    have HE : Hid (addE most l x = 11) := Lib.hid (if_pos h1)
    go_enter Try.func38, Try.ntmps38
    go_wp2_with (first | (at_len; refine wpList_len_own (H := Unit) _ rfl _ 54 rfl 79 3 Try.underlying54 (plainElem Try.prog 3) b l.length D rfl (HO.out.alloc _) ?_; rw [HS.out]))
    go_ret
    refine ⟨by rw [HE.out]; rfl, ?_, World.grownBy_alloc _ _ _⟩
    unfold addL
    rw [HE.out, if_neg (by decide)]
    exact ⟨D, (HO.out.alloc _), HR.out⟩
  · have hlt : l.length < most := by omega
    clear h1
    cases h2 : isIn l x
    · have HE : Hid (addE most l x = 0) := Lib.hid (by unfold addE; rw [if_neg (by omega), h2]; rfl)
      have HD : Hid (isIn l x = false) := Lib.hid h2
      have HN := Lib.hid (HR.out.add HX.out (isIn_not.1 h2))
      have hwf : (Lit.int .i64 (l.length : Int)).wf = true := WalkArith.wf_i64 (by omega)
      clear h2
      go_enter Try.func38, Try.ntmps38
      go_wp2_with (first | (at_len; refine wpList_len_own (H := Unit) _ rfl _ 54 rfl 79 3 Try.underlying54 (plainElem Try.prog 3) b l.length D rfl (HO.out.alloc _) ?_; rw [HS.out]) | (at_lookup; refine wpList_lookup_own_ok_int (H := Unit) _ rfl _ _ 54 rfl 79 3 .i64 byMember.law Try.underlying54 Try.underlying3 (zero3 _) b l.length D rfl (HO.out.alloc _) _ _ rfl HY.out ?_; intro c hat hwc; clear hat hwc; rw [HH.out, HD.out]) | (at_mapUpdate; refine wpList_mapUpdate_own (H := Unit) _ rfl _ _ _ 54 rfl 79 3 byMember.law Try.underlying54 _ b l.length _ rfl (HO.out.alloc _) (by unfold maxLen; omega) _ _ _ rfl rfl HY.out _ [] (plainElem_int Try.underlying3 hwf) ?_; intro w1 hown1 hgrow1; have HO1 := Lib.hid hown1; have HG1 := Lib.hid hgrow1; clear hown1 hgrow1))
      go_ret
      refine ⟨by rw [HE.out]; rfl, ?_, (World.grownBy_alloc _ _ _).trans HG1.out⟩
      unfold addL
      rw [HE.out, if_pos rfl]
      exact ⟨_, by simpa using HO1.out, HN.out⟩
    · have HE : Hid (addE most l x = 7) := Lib.hid (by unfold addE; rw [if_neg (by omega), if_pos h2])
      have HD : Hid (isIn l x = true) := Lib.hid h2
      clear h2
      go_enter Try.func38, Try.ntmps38
      go_wp2_with (first | (at_len; refine wpList_len_own (H := Unit) _ rfl _ 54 rfl 79 3 Try.underlying54 (plainElem Try.prog 3) b l.length D rfl (HO.out.alloc _) ?_; rw [HS.out]) | (at_lookup; refine wpList_lookup_own_ok_int (H := Unit) _ rfl _ _ 54 rfl 79 3 .i64 byMember.law Try.underlying54 Try.underlying3 (zero3 _) b l.length D rfl (HO.out.alloc _) _ _ rfl HY.out ?_; intro c hat hwc; clear hat hwc; rw [HH.out, HD.out]))
      go_ret
      refine ⟨by rw [HE.out]; rfl, ?_, World.grownBy_alloc _ _ _⟩
      unfold addL
      rw [HE.out, if_neg (by decide)]
      exact ⟨D, (HO.out.alloc _), HR.out⟩
end Go.Proofs.Ytjkgkigfmcegoaa
