/-
  DERIVED. The walks over blanks and remarks, of both.
-/
import Derived.Test.YtlpnkllhpienhaaDoorKeys
import Derived.WalkMore
namespace Go.Proofs.YtlpnkllhpienhaaDoor
open Go.RowKit

theorem from_list (s : ByteArray) (k : Nat) : (s.extract k s.size).data.toList = s.data.toList.drop k := by
  rw [← Lib.toList_data, Lib.extract_toList, ← Tx.len_eq]
  exact List.take_of_length_le (by simp)
theorem part_list (s : ByteArray) (a b : Nat) : (s.extract a b).data.toList = (s.data.toList.drop a).take (b - a) := by
  rw [← Lib.toList_data, Lib.extract_toList]
theorem pre2 (s : ByteArray) (k : Nat) (a b : UInt8) : Lib.hasPrefix (s.extract k s.size).data.toList [a, b] = true ↔ ∃ h : k + 1 < s.size, s[k] = a ∧ s[k + 1] = b := by
  rw [from_list]
  unfold Lib.hasPrefix
  by_cases h : k < s.size
  · rw [Tx.drop_at s k h]
    by_cases h1 : k + 1 < s.size
    · rw [Tx.drop_at s (k + 1) h1]
      simp only [List.isPrefixOf, Bool.and_true, Bool.and_eq_true, beq_iff_eq, h1, exists_true_left]
      exact ⟨fun ⟨x, y⟩ => ⟨x.symm, y.symm⟩, fun ⟨x, y⟩ => ⟨x.symm, y.symm⟩⟩
    · rw [Tx.drop_end s (k + 1) (by omega)]
      simp [List.isPrefixOf, h1]
  · rw [Tx.drop_end s k (by omega)]
    simp [List.isPrefixOf]; omega

theorem index_run (l : List UInt8) : Lib.indexByte l 10 = if Tx.run Tx.inl l < l.length then (Tx.run Tx.inl l : Int) else -1 := by
  induction l with
  | nil => rfl
  | cons b l ih =>
    unfold Lib.indexByte Tx.run
    by_cases h : b = 10
    · subst h; simp [Tx.inl]
    · have hb : Tx.inl (b.toNat : Int) = true := by
        unfold Tx.inl
        simp only [ne_eq, decide_not, Bool.not_eq_true', decide_eq_false_iff_not]
        intro e
        apply h
        exact UInt8.toNat_inj.1 (by show b.toNat = 10; omega)
      have hb' : (b == 10) = false := by simpa using h
      rw [hb', hb, ih]
      simp only [Bool.false_eq_true, if_false, if_true, List.length_cons]
      by_cases h2 : Tx.run Tx.inl l < l.length
      · rw [if_pos h2, if_neg (by simp), if_pos (show Tx.run Tx.inl l + 1 < l.length + 1 by omega)]; simp
      · rw [if_neg h2, if_neg (show ¬ Tx.run Tx.inl l + 1 < l.length + 1 by omega)]; rfl

theorem index_line (s : ByteArray) (i : Nat) (hi : i ≤ s.size) : Lib.indexByte (s.extract i s.size).data.toList 10 = if Tx.wend Tx.inl s i < s.size then ((Tx.wend Tx.inl s i : Int) - i) else -1 := by
  rw [from_list, index_run, List.length_drop, Tx.len_eq]
  unfold Tx.wend
  by_cases h : Tx.run Tx.inl (s.data.toList.drop i) < s.size - i
  · rw [if_pos h, if_pos (by omega)]; omega
  · rw [if_neg h, if_neg (by omega)]

/-- Where the next line's end stands, from i on; below nought: nowhere. -/
def lineI (s : ByteArray) (i : Nat) : Int := Lib.indexByte (s.extract i s.size).data.toList 10
/-- Does p stand at k? -/
def preB (s : ByteArray) (k : Nat) (p : ByteArray) : Bool := Lib.hasPrefix (s.extract k s.size).data.toList p.data.toList
theorem indexFrom_any (s : ByteArray) (i : Nat) (w : World) :
    Calls Tryd.prog 72 #[.string (s.extract i s.size), .int .u8 10] w fun e w' => e = .returned (.int .i64 (lineI s i)) ∧ w = w' := indexByte_any _ _ w
theorem prefixFrom_any (s : ByteArray) (k : Nat) (p : ByteArray) (w : World) :
    Calls Tryd.prog 65 #[.string (s.extract k s.size), .string p] w fun e w' => e = .returned (.bool (preB s k p)) ∧ w = w' := hasPrefix_any _ _ w

set_option maxHeartbeats 400000 in
theorem lineEnd_any (s : ByteArray) (i : Nat) (w : World) (hs : s.size ≤ 5000000) (hi : i ≤ s.size) :
    Calls Tryd.prog 66 #[.string s, .int .i64 i] w fun e w' => e = .returned (.int .i64 (Tx.wend Tx.inl s i)) ∧ w = w' := by
  have hx : lineI s i = _ := index_line s i hi
  have hle := Tx.wend_le Tx.inl s i hi
  have hge := Tx.wend_ge Tx.inl s i
  by_cases h : Tx.wend Tx.inl s i < s.size
  · rw [if_pos h] at hx
    have h0 : 0 ≤ lineI s i := by omega
    have h1 : lineI s i ≤ 5000000 := by omega
    have HX := Lib.hid hx
    have HH := Lib.hid h
    clear hx h hle hge
    go_enter Tryd.func66, Tryd.ntmps66
    go_wp2_with (go_at_call 72; refine (indexFrom_any _ _ _).mono ?_; rintro e w' ⟨rfl, rfl⟩)
    go_ret
    exact ⟨lret_int (by have := HX.out; omega), rfl⟩
  · rw [if_neg h] at hx
    have h0 : ¬ 0 ≤ lineI s i := by omega
    have HX := Lib.hid hx
    have HH := Lib.hid h
    clear hx h
    have HL := Lib.hid hle
    clear hle hge
    go_enter Tryd.func66, Tryd.ntmps66
    go_wp2_with (go_at_call 72; refine (indexFrom_any _ _ _).mono ?_; rintro e w' ⟨rfl, rfl⟩)
    go_ret
    exact ⟨lret_int (by have := HH.out; have := HL.out; omega), rfl⟩

theorem rem_yes (s : ByteArray) (k : Nat) (h : preB s k ⟨#[47, 47]⟩ = true) : ∃ h : k + 1 < s.size, s[k].toNat = 47 ∧ s[k + 1].toNat = 47 := by
  obtain ⟨h1, a, b⟩ := (pre2 s k 47 47).1 h
  exact ⟨h1, by rw [a]; rfl, by rw [b]; rfl⟩
theorem rem_no (s : ByteArray) (k : Nat) (hk : k < s.size) (h : preB s k ⟨#[47, 47]⟩ = false) : ¬ (s[k].toNat = 47 ∧ ∃ h : k + 1 < s.size, s[k + 1].toNat = 47) := by
  rintro ⟨a, h1, b⟩
  have := (pre2 s k 47 47).2 ⟨h1, UInt8.toNat_inj.1 a, UInt8.toNat_inj.1 b⟩
  unfold preB at h
  rw [show (ByteArray.mk #[47, 47]).data.toList = [47, 47] from rfl, this] at h
  cases h

theorem nblk (c : Int) (h1 : (c == 32) = false) (h2 : (c == 9) = false) (h3 : (c == 10) = false) (h4 : (c == 13) = false) : Tx.blk c = false := by
  unfold Tx.blk; simp at h1 h2 h3 h4 ⊢; omega
/-- A byte's case: a blank, a stroke, another. -/
theorem byte_case (c : Int) : (Tx.blk c = true ∧ ((c == 32) = true ∨ ((c == 32) = false ∧ (c == 9) = true) ∨ ((c == 32) = false ∧ (c == 9) = false ∧ (c == 10) = true) ∨ ((c == 32) = false ∧ (c == 9) = false ∧ (c == 10) = false ∧ (c == 13) = true)))
    ∨ (Tx.blk c = false ∧ (c == 32) = false ∧ (c == 9) = false ∧ (c == 10) = false ∧ (c == 13) = false ∧ ((c == 47) = true ∨ (c == 47) = false)) := by
  unfold Tx.blk; simp; omega

set_option maxHeartbeats 800000 in
theorem skip_any (s : ByteArray) (i : Nat) (w : World) (hs : s.size ≤ 5000000) (hi : i ≤ s.size) :
    Calls Tryd.prog 49 #[.string s, .int .i64 i] w fun e w' => e = .returned (.int .i64 (Tx.skp s i)) ∧ w = w' := by
  go_enter Tryd.func49, Tryd.ntmps49
  go_wp2
  go_step3
  go_wp2
  go_step3
  go_wp2
  go_loop [1] (fun v => ∃ k : Nat, k ≤ s.size ∧ v = .int .i64 k ∧ Hid (Tx.skp s k = Tx.skp s i)) (fun v => s.size - (intOf v).toNat)
  case atStart => exact ⟨i, hi, rfl, rfl⟩
  case round =>
    obtain ⟨k, hk, rfl, HR⟩ := hrel
    by_cases hlt : k < s.size
    · rcases byte_case (s[k].toNat : Int) with ⟨hb, hc⟩ | ⟨hb, h1, h2, h3, h4, hc⟩
      · have HE := Lib.hid (Tx.skp_blank s k hlt hb)
        clear hb
        rcases hc with h1 | ⟨h1, h2⟩ | ⟨h1, h2, h3⟩ | ⟨h1, h2, h3, h4⟩
        all_goals
          go_wp2_with fail
          go_round
          case rel => exact ⟨k + 1, by omega, by go_num, HE.out.trans HR.out⟩
          case measure => simp [intOf]; omega
      · rcases hc with h5 | h5
        · cases hp : preB s k ⟨#[47, 47]⟩
          · have HE := Lib.hid (Tx.skp_stop s k hlt hb (rem_no s k hlt hp))
            clear hb
            go_wp2_with (go_at_call 65; refine (prefixFrom_any _ _ _ _).mono ?_; rintro e w' ⟨rfl, rfl⟩)
            (first | go_ret | (rw [Exit.noGoto_ret]; go_ret))
            exact ⟨lret_int (by rw [← HR.out, HE.out]), rfl⟩
          · obtain ⟨h6, a, b⟩ := rem_yes s k hp
            have HE := Lib.hid (Tx.skp_rem s k h6 a b)
            have hge : k + 1 ≤ Tx.wend Tx.inl s k := by
              rw [← Tx.wend_in Tx.inl s k hlt (by rw [a]; rfl)]; exact Tx.wend_ge _ _ _
            have hle := Tx.wend_le Tx.inl s k hk
            clear hb a b h6
            go_wp2_with (first | (go_at_call 65; refine (prefixFrom_any _ _ _ _).mono ?_; rintro e w' ⟨rfl, rfl⟩) | (go_at_call 66; refine (lineEnd_any _ _ _ hs (by omega)).mono ?_; rintro e w' ⟨rfl, rfl⟩))
            go_round
            case rel => exact ⟨_, hle, rfl, HE.out.trans HR.out⟩
            case measure => simp [intOf]; omega
        · have HE := Lib.hid (Tx.skp_stop s k hlt hb (by rintro ⟨a, _⟩; rw [a] at h5; simp at h5))
          clear hb
          go_wp2_with fail
          (first | go_ret | (rw [Exit.noGoto_ret]; go_ret))
          exact ⟨lret_int (by rw [← HR.out, HE.out]), rfl⟩
    · have HE := Lib.hid (Tx.skp_end s k (by omega))
      go_wp2_with fail
      (first | go_ret | (rw [Exit.noGoto_ret]; go_ret))
      exact ⟨lret_int (by rw [← HR.out, HE.out]), rfl⟩

end Go.Proofs.YtlpnkllhpienhaaDoor
