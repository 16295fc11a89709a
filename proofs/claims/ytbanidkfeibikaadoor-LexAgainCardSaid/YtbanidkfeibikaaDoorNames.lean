/-
  DERIVED. The walks of 'may it be a Name?', of both.
-/
import Derived.Test.YtbanidkfeibikaaDoorKeys
namespace Go.Proofs.YtbanidkfeibikaaDoor
open Go.RowKit

namespace Tx
def headL (s : ByteArray) : Bool := if h : 0 < s.size then ltr (s[0].toNat : Int) else false
/-- May it be a Name? -/
def nameB (s : ByteArray) : Bool := decide (s.size ≤ 16) && headL s && decide (wend wrd s 0 = s.size) && !isKey s
theorem empty_of (s : ByteArray) (h : s.size = 0) : s = ByteArray.empty := ByteArray.size_eq_zero_iff.1 h
theorem headL_eq (s : ByteArray) (h : 0 < s.size) : headL s = ltr (s[0].toNat : Int) := by unfold headL; rw [dif_pos h]
end Tx

theorem toList_ne (s : ByteArray) (h : 0 < s.size) : (s.toList == []) = false := by
  rw [Lib.toList_data]
  rw [Bool.eq_false_iff]
  intro e
  have := Tx.len_eq s
  rw [beq_iff_eq] at e
  rw [e] at this
  simp at this
  omega

set_option maxHeartbeats 800000 in
theorem isNameLex_any (s : ByteArray) (w : World) (hs : s.size ≤ 5000000) (hg : Gl w) :
    Calls Tryd.prog 15 #[.string s] w fun e w' => e = .returned (.bool (Tx.nameB s)) ∧ w = w' := by
  by_cases h0 : s.size = 0
  · obtain rfl := Tx.empty_of s h0
    clear h0
    go_enter Tryd.func15, Tryd.ntmps15
    go_wp2
    go_ret
    exact ⟨rfl, rfl⟩
  · have h1 : 0 < s.size := by omega
    have hne := toList_ne s h1
    clear h0
    have hw := Lib.hid (Tx.headL_eq s h1)
    by_cases h16 : s.size ≤ 16
    · cases hl : Tx.ltr (s[0].toNat : Int)
      · have HE : Hid (Tx.nameB s = false) := Lib.hid (by unfold Tx.nameB; rw [hw.out, hl]; simp)
        go_enter Tryd.func15, Tryd.ntmps15
        go_wp2_with (first | (go_at_call 19; refine (isLetter_any _ _).mono ?_; rintro e w' ⟨rfl, rfl⟩) | (go_at_call 28; refine (wordEnd_any s 0 _ hs (by omega)).mono ?_; rintro e w' ⟨rfl, rfl⟩) | (go_at_call 13; refine (isKeyLex_any _ _ hg).mono ?_; rintro e w' ⟨rfl, rfl⟩))
        go_ret
        exact ⟨ret_bool HE.out.symm, rfl⟩
      · have h16' := Lib.hid h16
        by_cases hd : Tx.wend Tx.wrd s 0 = s.size
        · have HE : Hid (Tx.nameB s = !Tx.isKey s) := Lib.hid (by unfold Tx.nameB; rw [hw.out, hl, decide_eq_true hd, decide_eq_true h16]; simp)
          have hd' : decide (Tx.wend Tx.wrd s 0 = s.size) = true := decide_eq_true hd
          have hd2 : ((Tx.wend Tx.wrd s 0 : Int) == (s.size : Int)) = true := by rw [hd]; simp
          clear hd
          go_enter Tryd.func15, Tryd.ntmps15
          go_wp2_with (first | (go_at_call 19; refine (isLetter_any _ _).mono ?_; rintro e w' ⟨rfl, rfl⟩) | (go_at_call 28; refine (wordEnd_any s 0 _ hs (by omega)).mono ?_; rintro e w' ⟨rfl, rfl⟩) | (go_at_call 13; refine (isKeyLex_any _ _ hg).mono ?_; rintro e w' ⟨rfl, rfl⟩))
          go_ret
          exact ⟨ret_bool HE.out.symm, rfl⟩
        · have HE : Hid (Tx.nameB s = false) := Lib.hid (by unfold Tx.nameB; rw [decide_eq_false hd]; simp)
          have hd2 : ((Tx.wend Tx.wrd s 0 : Int) == (s.size : Int)) = false := by rw [Bool.eq_false_iff]; intro e; rw [beq_iff_eq] at e; exact hd (by omega)
          clear hd
          go_enter Tryd.func15, Tryd.ntmps15
          go_wp2_with (first | (go_at_call 19; refine (isLetter_any _ _).mono ?_; rintro e w' ⟨rfl, rfl⟩) | (go_at_call 28; refine (wordEnd_any s 0 _ hs (by omega)).mono ?_; rintro e w' ⟨rfl, rfl⟩) | (go_at_call 13; refine (isKeyLex_any _ _ hg).mono ?_; rintro e w' ⟨rfl, rfl⟩))
          go_ret
          exact ⟨ret_bool HE.out.symm, rfl⟩
    · have HE : Hid (Tx.nameB s = false) := Lib.hid (by unfold Tx.nameB; rw [decide_eq_false h16]; simp)
      go_enter Tryd.func15, Tryd.ntmps15
      go_wp2_with fail
      go_ret
      exact ⟨ret_bool HE.out.symm, rfl⟩

set_option maxHeartbeats 800000 in
theorem isNameRef_any (s : ByteArray) (w : World) (hs : s.size ≤ 5000000) :
    Calls Tryd.prog 16 #[.string s] w fun e w' => e = .returned (.bool (Tx.nameB s)) ∧ Below w.heap.size w w' := by
  by_cases h0 : s.size = 0
  · obtain rfl := Tx.empty_of s h0
    clear h0
    go_enter Tryd.func16, Tryd.ntmps16
    go_wp2
    go_ret
    exact ⟨rfl, Below.refl _ _⟩
  · have h1 : 0 < s.size := by omega
    have hw := Lib.hid (Tx.headL_eq s h1)
    have hz : ((s.size : Int) == 0) = false := by rw [Bool.eq_false_iff]; intro e; rw [beq_iff_eq] at e; omega
    clear h0
    by_cases h16 : s.size ≤ 16
    · cases hl : Tx.ltr (s[0].toNat : Int)
      · have HE : Hid (Tx.nameB s = false) := Lib.hid (by unfold Tx.nameB; rw [hw.out, hl]; simp)
        go_enter Tryd.func16, Tryd.ntmps16
        go_wp2_with (first | (go_at_call 25; refine (letter_any _ _).mono ?_; rintro e w' ⟨rfl, rfl⟩) | (go_at_call 26; refine (digit_any _ _).mono ?_; rintro e w' ⟨rfl, rfl⟩))
        go_ret
        exact ⟨ret_bool HE.out.symm, Below.refl _ _⟩
      · cases hk : Tx.isKey s
        · have HE : Hid (Tx.nameB s = decide (Tx.wend Tx.wrd s 0 = s.size)) := Lib.hid (by unfold Tx.nameB; rw [hw.out, hl, hk, decide_eq_true h16]; simp)
          go_enter Tryd.func16, Tryd.ntmps16
          go_wp2_with (first | (go_at_call 25; refine (letter_any _ _).mono ?_; rintro e w' ⟨rfl, rfl⟩) | (go_at_call 14; refine (isKeyRef_any _ _).mono ?_; rintro e w1 ⟨rfl, hb⟩; have HB := Lib.hid hb; clear hb))
          clear hk hl
          go_loop [3] (fun v => ∃ k : Nat, k ≤ s.size ∧ v = .int .i64 k ∧ Hid (Tx.wend Tx.wrd s k = Tx.wend Tx.wrd s 0)) (fun v => s.size - (intOf v).toNat)
          case atStart => exact ⟨0, by omega, rfl, rfl⟩
          case round =>
            obtain ⟨k, hk, rfl, HR⟩ := hrel
            by_cases hlt : k < s.size
            · cases hl : Tx.ltr (s[k].toNat : Int)
              · cases hd : Tx.dgt (s[k].toNat : Int)
                · have HO := Lib.hid (Tx.wend_out Tx.wrd s k hlt (by unfold Tx.wrd; rw [hl, hd]; rfl))
                  go_wp2_with (first | (go_at_call 25; refine (letter_any _ _).mono ?_; rintro e w' ⟨rfl, rfl⟩) | (go_at_call 26; refine (digit_any _ _).mono ?_; rintro e w' ⟨rfl, rfl⟩))
                  go_ret
                  exact ⟨ret_bool (by rw [HE.out, ← HR.out, HO.out, decide_eq_false (by omega)]), HB.out⟩
                · have HO := Lib.hid (Tx.wend_in Tx.wrd s k hlt (by unfold Tx.wrd; rw [hl, hd]; rfl))
                  go_wp2_with (first | (go_at_call 25; refine (letter_any _ _).mono ?_; rintro e w' ⟨rfl, rfl⟩) | (go_at_call 26; refine (digit_any _ _).mono ?_; rintro e w' ⟨rfl, rfl⟩))
                  go_round
                  case rel => exact ⟨k + 1, by omega, by go_num, HO.out.trans HR.out⟩
                  case measure => simp [intOf]; omega
              · have HO := Lib.hid (Tx.wend_in Tx.wrd s k hlt (by unfold Tx.wrd; rw [hl]; rfl))
                go_wp2_with (first | (go_at_call 25; refine (letter_any _ _).mono ?_; rintro e w' ⟨rfl, rfl⟩) | (go_at_call 26; refine (digit_any _ _).mono ?_; rintro e w' ⟨rfl, rfl⟩))
                go_round
                case rel => exact ⟨k + 1, by omega, by go_num, HO.out.trans HR.out⟩
                case measure => simp [intOf]; omega
            · have HO := Lib.hid (Tx.wend_end Tx.wrd s k (by omega))
              go_wp2_with fail
              go_ret
              exact ⟨ret_bool (by rw [HE.out, ← HR.out, HO.out, decide_eq_true (by omega)]), HB.out⟩
        · have HE : Hid (Tx.nameB s = false) := Lib.hid (by unfold Tx.nameB; rw [hk]; simp)
          go_enter Tryd.func16, Tryd.ntmps16
          go_wp2_with (first | (go_at_call 25; refine (letter_any _ _).mono ?_; rintro e w' ⟨rfl, rfl⟩) | (go_at_call 14; refine (isKeyRef_any _ _).mono ?_; rintro e w1 ⟨rfl, hb⟩; have HB := Lib.hid hb; clear hb))
          go_ret
          exact ⟨ret_bool HE.out.symm, HB.out⟩
    · have HE : Hid (Tx.nameB s = false) := Lib.hid (by unfold Tx.nameB; rw [decide_eq_false h16]; simp)
      go_enter Tryd.func16, Tryd.ntmps16
      go_wp2_with fail
      go_ret
      exact ⟨ret_bool HE.out.symm, Below.refl _ _⟩

end Go.Proofs.YtbanidkfeibikaaDoor
