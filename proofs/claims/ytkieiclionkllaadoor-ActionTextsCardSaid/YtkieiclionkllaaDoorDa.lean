/-
  DERIVED. The walks of the reader: next, numbers, operands.
-/
import Derived.Test.YtkieiclionkllaaDoorCd
namespace Go.Proofs.YtkieiclionkllaaDoor
open Go.RowKit Go.Sort
open Ac

theorem cut_eq : ∀ l : List UInt8, (Lib.cut l [32]).1 = (cutAt l).1 ∧ (Lib.cut l [32]).2.1 = (cutAt l).2
  | [] => by simp [Lib.cut, Lib.index, cutAt]
  | c :: r => by
    have ih := cut_eq r
    have hge := Lib.index_ge r [32]
    by_cases h : c = 32
    · subst h
      simp [Lib.cut, Lib.index, cutAt]
    · have hp : ([32] : List UInt8).isPrefixOf (c :: r) = false := by simp [List.isPrefixOf]; exact fun e => h e.symm
      have hi : Lib.index (c :: r) [32] = if Lib.index r [32] == -1 then -1 else Lib.index r [32] + 1 := by rw [Lib.index, hp]; simp
      unfold Lib.cut at ih ⊢
      rw [hi]
      simp only [cutAt, if_neg h]
      by_cases h1 : Lib.index r [32] = -1
      · have h2 : ¬ (0 : Int) ≤ -1 := by omega
        rw [h1] at ih ⊢
        simp only [if_neg h2] at ih ⊢
        simp [← ih.1, ← ih.2]
      · have hb : (Lib.index r [32] == -1) = false := by rw [beq_eq_false_iff_ne]; exact h1
        have h0 : 0 ≤ Lib.index r [32] := by omega
        have h3 : 0 ≤ Lib.index r [32] + 1 := by omega
        rw [if_pos h0] at ih
        rw [hb]
        simp only [Bool.false_eq_true, if_false, if_pos h3]
        have e : (Lib.index r [32] + 1).toNat = (Lib.index r [32]).toNat + 1 := by omega
        rw [e]
        constructor
        · rw [← ih.1]; rfl
        · rw [← ih.2]
          show List.drop ((Lib.index r [32]).toNat + 1 + 1) (c :: r) = _
          rfl
theorem cut_len : ∀ l : List UInt8, (cutAt l).1.length ≤ l.length ∧ (cutAt l).2.length ≤ l.length
  | [] => by simp [cutAt]
  | c :: r => by
    have ih := cut_len r
    unfold cutAt
    split
    · simp
    · simp only [List.length_cons]; omega
/-- The reader's block. -/
def Rd (w : World) (R : Nat) (l : List UInt8) : Prop := Bk w R 48 #[.string (bt l)] ∧ l.length ≤ 100000
def NxPost (w : World) (R : Nat) (l : List UInt8) (e : Ending) (w' : World) : Prop := e = .returned (.string (bt (cutAt l).1)) ∧ Rd w' R (cutAt l).2 ∧ w.grownBy w' (some R)
set_option maxHeartbeats 800000 in
theorem next_any (R : Nat) (l : List UInt8) (w : World) (h : Rd w R l) (hG : Gl w) : Calls Tryd.prog 27 #[.pointer (some ⟨R, 0, none⟩)] w fun e w' => NxPost w R l e w' := by
  obtain ⟨m, hm⟩ := hG.ml
  have hc := cut_eq l
  have CC : Hid (Calls Tryd.prog 34 #[.string (bt l), .string ⟨#[32]⟩] w fun e w' => ∃ b n, e = .returned (.tuple #[.string (bt (cutAt l).1), .string (bt (cutAt l).2), .bool b]) ∧ w' = w.drewN n) := Lib.hid (by
    refine (Tryd.strings_Cut (bt l) ⟨#[32]⟩ m w (by rw [bt_size]; have := h.2; omega) hm).mono fun e w' hh => ?_
    obtain ⟨he, n, hn⟩ := hh
    have he' : e = .returned (.tuple #[.string (bt (Lib.cut l [32]).1), .string (bt (Lib.cut l [32]).2.1), .bool (Lib.cut l [32]).2.2]) := he
    rw [hc.1, hc.2] at he'
    exact ⟨_, n, he', hn⟩)
  have c0 : w.cell? ⟨R, 0, none⟩ = some (.string (bt l)) := h.1.cell 0
  have HP : Hid (∀ n, NxPost w R l (.returned (.string (bt (cutAt l).1))) ((w.drewN n).setCell ⟨R, 0, none⟩ (.string (bt (cutAt l).2)))) := Lib.hid fun n =>
    ⟨rfl, ⟨(h.1.drewN n).set_ 0 _, Nat.le_trans (cut_len l).2 h.2⟩, grownBy_tr (grownBy_drewN ⟨rfl, rfl, rfl, Nat.le_refl _, fun _ _ _ => rfl⟩ n) (grownBy_setC _ ⟨R, 0, none⟩ _)⟩
  have HF : Hid (∀ n, (w.drewN n).cell? ⟨R, 0, none⟩ = some (.string (bt l)) ∧ (w.drewN n).frozen? ⟨R, 0, none⟩ = false) := Lib.hid fun n => ⟨(h.1.drewN n).cell 0, (h.1.drewN n).frozen 0⟩
  clear h hG hm hc
  generalize bt (cutAt l).1 = t1 at *
  generalize bt (cutAt l).2 = t2 at *
  generalize bt l = t at *
  go_enter Tryd.func27, Tryd.ntmps27
  go_wp2_with (go_at_call 34; refine CC.out.mono ?_; rintro e w1 ⟨b, n, rfl, rfl⟩; have hf := HF.out n)
  go_ret
  exact HP.out _
/-- A word's number. -/
theorem atoi_any (l : List UInt8) (hl : l.length ≤ 100000) (w : World) (hG : Gl w) : Calls Tryd.prog 41 #[.string (bt l)] w fun e w' => ∃ v, e = .returned (.tuple #[.int .i64 (atoiN l), v]) ∧ Below w.heap.size w w' := by
  obtain ⟨t7, p7, h7⟩ := hG.syn
  obtain ⟨t8, p8, h8⟩ := hG.rng
  have hs : (bt l).size ≤ 281474976710656 := by rw [bt_size]; omega
  rcases h : Lib.atoiAll l with v | _ | _
  · have e : atoiN l = v := by unfold atoiN; rw [h]
    rw [e]
    refine (Tryd.strconv_Atoi_ok (bt l) (by omega) v h w).mono fun e w' hh => ⟨_, hh.1, ?_⟩
    rcases hh.2 with rfl | ⟨t, rfl⟩
    · exact Below.refl _ _
    · exact Lib.bytesWorld_below _ _ _
  · have e : atoiN l = 0 := by unfold atoiN; rw [h]
    rw [e]
    refine (Any.strconv_Atoi_syntax Tryd.laysC172 (bt l) hs h _ w h7 (Or.inr ⟨_, _, rfl⟩)).mono fun e w' hh => ?_
    obtain ⟨N, h1, _, _, h4⟩ := hh
    exact ⟨_, h1, h4⟩
  · have e : atoiN l = Lib.atoiSat l := by unfold atoiN; rw [h]
    rw [e]
    refine (Tryd.strconv_Atoi_range (bt l) hs h _ w h8 (Or.inr ⟨_, _, rfl⟩)).mono fun e w' hh => ?_
    obtain ⟨N, h1, _, _, h4⟩ := hh
    exact ⟨_, h1, h4⟩
theorem atoiN_int (l : List UInt8) : isInt (atoiN l) := by
  rcases h : Lib.atoiAll l with v | _ | _
  · have e : atoiN l = v := by unfold atoiN; rw [h]
    rw [e]; exact Lib.atoiAll_bounds h
  · have e : atoiN l = 0 := by unfold atoiN; rw [h]
    rw [e]; exact ⟨by decide, by decide⟩
  · have e : atoiN l = Lib.atoiSat l := by unfold atoiN; rw [h]
    rw [e]; exact Lib.atoiSat_bounds l
theorem bt_beq (a b : List UInt8) : ((bt a).toList == b) = decide (a = b) := by
  rw [Lib.toList_data, bt_list, Bool.eq_iff_iff]; simp
theorem numberOf_int (l : List UInt8) : isInt (numberOf l) := by
  unfold numberOf
  split
  · exact ⟨by decide, by decide⟩
  · exact atoiN_int _
theorem bt_drop (l : List UInt8) : (bt l).extract 1 (bt l).size = bt (l.drop 1) := by
  refine ba_ext ?_
  rw [bt_list]
  simp [bt]
  refine List.take_of_length_le ?_
  rw [List.length_tail]
  exact Nat.le_refl _
set_option maxHeartbeats 800000 in
theorem number_of (l : List UInt8) (hl : l.length ≤ 100000) (w : World) (hG : Gl w) : Calls Tryd.prog 37 #[.string (bt l)] w fun e w' => e = .returned (.int .i64 (numberOf l)) ∧ Below w.heap.size w w' := by
  have h1 := bt_beq l []
  have h2 := bt_beq l nullW
  by_cases e1 : l = []
  · have HR : Hid (numberOf l = -1) := Lib.hid (by unfold numberOf; rw [if_pos (Or.inl e1)])
    rw [decide_eq_true e1] at h1
    clear h2 e1 hl hG
    generalize bt l = t at *
    go_enter Tryd.func37, Tryd.ntmps37
    go_wp2_with fail
    go_ret
    exact ⟨lret_int HR.out.symm, Below.refl _ _⟩
  · rw [decide_eq_false e1] at h1
    by_cases e2 : l = nullW
    · have HR : Hid (numberOf l = -1) := Lib.hid (by unfold numberOf; rw [if_pos (Or.inr e2)])
      rw [decide_eq_true e2] at h2
      clear e2 e1 hl hG
      generalize bt l = t at *
      have h2' : (t.toList == [110, 117, 108, 108]) = true := h2
      clear h2
      go_enter Tryd.func37, Tryd.ntmps37
      go_wp2_with fail
      go_ret
      exact ⟨lret_int HR.out.symm, Below.refl _ _⟩
    · have HR : Hid (numberOf l = atoiN (l.drop 1)) := Lib.hid (by unfold numberOf; rw [if_neg (by simp [e1, e2])])
      rw [decide_eq_false e2] at h2
      have CA := Lib.hid (atoi_any (l.drop 1) (by rw [List.length_drop]; omega) w hG)
      rw [← bt_drop] at CA
      have hz : 1 ≤ (bt l).size := by
        rw [bt_size]; cases l with
        | nil => exact absurd rfl e1
        | cons c r => simp
      have hz2 : (bt l).size ≤ 100000 := hl
      clear e2 e1 hl hG
      generalize atoiN (l.drop 1) = n at *
      generalize bt l = t at *
      have h2' : (t.toList == [110, 117, 108, 108]) = false := h2
      clear h2
      go_enter Tryd.func37, Tryd.ntmps37
      go_wp2_with (go_at_call 41; refine CA.out.mono ?_; rintro e w1 ⟨v, rfl, hb⟩; have HB := Lib.hid hb; clear hb)
      go_ret
      exact ⟨lret_int HR.out.symm, HB.out⟩
end Go.Proofs.YtkieiclionkllaaDoor
