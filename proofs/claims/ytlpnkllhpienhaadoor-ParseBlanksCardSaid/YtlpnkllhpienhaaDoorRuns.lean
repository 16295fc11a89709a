/-
  DERIVED. The walks of the loops over a text: a word's end, digits' end, what digits say.
-/
import Derived.Test.YtlpnkllhpienhaaDoorChr
namespace Go.Proofs.YtlpnkllhpienhaaDoor
open Go.RowKit

set_option maxHeartbeats 400000 in
theorem wordEnd_any (s : ByteArray) (i : Nat) (w : World) (hs : s.size ≤ 5000000) (hi : i ≤ s.size) :
    Calls Tryd.prog 67 #[.string s, .int .i64 i] w fun e w' => e = .returned (.int .i64 (Tx.wend Tx.wrd s i)) ∧ w = w' := by
  go_enter Tryd.func67, Tryd.ntmps67
  go_wp2
  go_loop [1] (fun v => ∃ k : Nat, k ≤ s.size ∧ v = .int .i64 k ∧ Hid (Tx.wend Tx.wrd s k = Tx.wend Tx.wrd s i)) (fun v => s.size - (intOf v).toNat)
  case atStart => exact ⟨i, hi, rfl, rfl⟩
  case round =>
    obtain ⟨k, hk, rfl, HR⟩ := hrel
    by_cases hlt : k < s.size
    · cases hl : Tx.ltr (s[k].toNat : Int)
      · cases hd : Tx.dgt (s[k].toNat : Int)
        · have HE := Lib.hid (Tx.wend_out Tx.wrd s k hlt (by unfold Tx.wrd; rw [hl, hd]; rfl))
          go_wp2_with (first | (go_at_call 51; refine (isLetter_any _ _).mono ?_; rintro e w' ⟨rfl, rfl⟩) | (go_at_call 53; refine (isDigit_any _ _).mono ?_; rintro e w' ⟨rfl, rfl⟩))
          go_ret
          exact ⟨lret_int (by rw [← HR.out, HE.out]), rfl⟩
        · have HE := Lib.hid (Tx.wend_in Tx.wrd s k hlt (by unfold Tx.wrd; rw [hl, hd]; rfl))
          go_wp2_with (first | (go_at_call 51; refine (isLetter_any _ _).mono ?_; rintro e w' ⟨rfl, rfl⟩) | (go_at_call 53; refine (isDigit_any _ _).mono ?_; rintro e w' ⟨rfl, rfl⟩))
          go_round
          case rel => exact ⟨k + 1, by omega, by go_num, HE.out.trans HR.out⟩
          case measure => simp [intOf]; omega
      · have HE := Lib.hid (Tx.wend_in Tx.wrd s k hlt (by unfold Tx.wrd; rw [hl]; rfl))
        go_wp2_with (first | (go_at_call 51; refine (isLetter_any _ _).mono ?_; rintro e w' ⟨rfl, rfl⟩) | (go_at_call 53; refine (isDigit_any _ _).mono ?_; rintro e w' ⟨rfl, rfl⟩))
        go_round
        case rel => exact ⟨k + 1, by omega, by go_num, HE.out.trans HR.out⟩
        case measure => simp [intOf]; omega
    · have HE := Lib.hid (Tx.wend_end Tx.wrd s k (by omega))
      go_wp2_with fail
      go_ret
      exact ⟨lret_int (by rw [← HR.out, HE.out]), rfl⟩

set_option maxHeartbeats 400000 in
theorem digitsEnd_any (s : ByteArray) (i : Nat) (w : World) (hs : s.size ≤ 5000000) (hi : i ≤ s.size) :
    Calls Tryd.prog 70 #[.string s, .int .i64 i] w fun e w' => e = .returned (.int .i64 (Tx.wend Tx.dgt s i)) ∧ w = w' := by
  go_enter Tryd.func70, Tryd.ntmps70
  go_wp2
  go_loop [1] (fun v => ∃ k : Nat, k ≤ s.size ∧ v = .int .i64 k ∧ Hid (Tx.wend Tx.dgt s k = Tx.wend Tx.dgt s i)) (fun v => s.size - (intOf v).toNat)
  case atStart => exact ⟨i, hi, rfl, rfl⟩
  case round =>
    obtain ⟨k, hk, rfl, HR⟩ := hrel
    by_cases hlt : k < s.size
    · cases hd : Tx.dgt (s[k].toNat : Int)
      · have HE := Lib.hid (Tx.wend_out Tx.dgt s k hlt hd)
        go_wp2_with (go_at_call 53; refine (isDigit_any _ _).mono ?_; rintro e w' ⟨rfl, rfl⟩)
        go_ret
        exact ⟨lret_int (by rw [← HR.out, HE.out]), rfl⟩
      · have HE := Lib.hid (Tx.wend_in Tx.dgt s k hlt hd)
        go_wp2_with (go_at_call 53; refine (isDigit_any _ _).mono ?_; rintro e w' ⟨rfl, rfl⟩)
        go_round
        case rel => exact ⟨k + 1, by omega, by go_num, HE.out.trans HR.out⟩
        case measure => simp [intOf]; omega
    · have HE := Lib.hid (Tx.wend_end Tx.dgt s k (by omega))
      go_wp2_with fail
      go_ret
      exact ⟨lret_int (by rw [← HR.out, HE.out]), rfl⟩

theorem val_take (s : ByteArray) (k : Nat) (h : k < s.size) : Tx.val (s.data.toList.take (k + 1)) = 10 * Tx.val (s.data.toList.take k) + (s[k].toNat - 48) := by
  rw [List.take_succ_eq_append_getElem (by rw [Tx.len_eq]; exact h)]
  unfold Tx.val
  rw [List.foldl_append]
  rfl
/-- All of a list's bytes are digits. -/
def digs (l : List UInt8) : Prop := ∀ b ∈ l, Tx.dgt (b.toNat : Int) = true
theorem digs_at {s : ByteArray} (h : digs s.data.toList) (k : Nat) (hk : k < s.size) : 48 ≤ s[k].toNat ∧ s[k].toNat ≤ 57 := by
  have := h s[k] (by
    have : s[k] = s.data.toList[k]'(by rw [Tx.len_eq]; exact hk) := by simp; rfl
    rw [this]; exact List.getElem_mem _)
  unfold Tx.dgt at this
  simp at this
  omega
theorem val_bd (s : ByteArray) (h : digs s.data.toList) : ∀ k, k ≤ s.size → 0 ≤ Tx.val (s.data.toList.take k) ∧ Tx.val (s.data.toList.take k) < 10 ^ k
  | 0, _ => by simp [Tx.val]
  | k + 1, hk => by
    have ih := val_bd s h k (by omega)
    have hd := digs_at h k (by omega)
    rw [val_take s k (by omega)]
    have : (10 : Int) ^ (k + 1) = 10 * 10 ^ k := by rw [Int.pow_succ]; omega
    omega
theorem val_small (s : ByteArray) (h : digs s.data.toList) (h9 : s.size ≤ 9) (k : Nat) (hk : k ≤ s.size) : 0 ≤ Tx.val (s.data.toList.take k) ∧ Tx.val (s.data.toList.take k) < 1000000000 := by
  have h1 := val_bd s h k hk
  have h2 : (10 : Int) ^ k ≤ 10 ^ 9 := by
    have : (10 : Nat) ^ k ≤ 10 ^ 9 := Nat.pow_le_pow_right (by decide) (by omega)
    have := Int.ofNat_le.2 this
    simpa using this
  have h3 : (10 : Int) ^ 9 = 1000000000 := by decide
  omega

set_option maxHeartbeats 400000 in
theorem lvalue_any (s : ByteArray) (w : World) (hd : digs s.data.toList) (h9 : s.size ≤ 9) :
    Calls Tryd.prog 71 #[.string s] w fun e w' => e = .returned (.int .i64 (Tx.val s.data.toList)) ∧ w = w' := by
  have HD := Lib.hid hd
  clear hd
  go_enter Tryd.func71, Tryd.ntmps71
  go_wp2
  go_loop [3, 7] (fun n i => ∃ k : Nat, k ≤ s.size ∧ i = .int .i64 k ∧ n = .int .i64 (Tx.val (s.data.toList.take k))) (fun _ i => s.size - (intOf i).toNat)
  case atStart => exact ⟨0, Nat.zero_le _, rfl, rfl⟩
  case round =>
    obtain ⟨k, hk, rfl, rfl⟩ := hrel
    by_cases hlt : k < s.size
    · have hb := val_small s HD.out h9 k hk
      have hb0 := hb.1
      have hb1 := hb.2
      have hc := digs_at HD.out k hlt
      have hc0 := hc.1
      have hc1 := hc.2
      have HE := Lib.hid (val_take s k hlt)
      clear hb hc
      go_wp2_with fail
      go_round
      case rel => exact ⟨k + 1, by omega, by go_num, by rw [HE.out]⟩
      case measure => simp [intOf]; omega
    · go_wp2_with fail
      go_ret
      exact ⟨lret_int (by rw [List.take_of_length_le (by rw [Tx.len_eq]; omega)]), rfl⟩

end Go.Proofs.YtlpnkllhpienhaaDoor
