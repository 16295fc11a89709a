/-
  DERIVED. The document's walk over blanks and remarks.
-/
import Derived.Test.YtlpnkllhpienhaaDoorSkips
import Derived.Deep.LoopGhost
namespace Go.Proofs.YtlpnkllhpienhaaDoor
open Go.RowKit

theorem ne_of (c d : Int) (b : Bool) (h : (c == d) = b) : (c != d) = !b := by rw [bne, h]

set_option maxHeartbeats 800000 in
theorem blank_any (s : ByteArray) (i : Nat) (w : World) (hs : s.size ≤ 5000000) (hi : i ≤ s.size) :
    Calls Tryd.prog 16 #[.string s, .int .i64 i] w fun e w' => e = .returned (.int .i64 (Tx.skp s i)) ∧ w = w' := by
  go_enter Tryd.func16, Tryd.ntmps16
  go_wp2
  go_loopg [1] (s.size - i) (fun g v wr => ∃ k : Nat, k ≤ s.size ∧ s.size - k ≤ g ∧ v = .int .i64 k ∧ w = wr ∧ Hid (Tx.skp s k = Tx.skp s i))
  case atStart => exact ⟨i, hi, Nat.le_refl _, rfl, rfl, rfl⟩
  case round =>
    obtain ⟨k, hk, hgk, rfl, rfl, HR⟩ := hrel
    obtain ⟨g0, rfl⟩ : ∃ g0, g0 = gk := ⟨gk, rfl⟩
    by_cases hlt : k < s.size
    · rcases byte_case (s[k].toNat : Int) with ⟨hb, hc⟩ | ⟨hb, h1, h2, h3, h4, hc⟩
      · have HE := Lib.hid (Tx.skp_blank s k hlt hb)
        clear hb
        rcases hc with h1 | ⟨h1, h2⟩ | ⟨h1, h2, h3⟩ | ⟨h1, h2, h3, h4⟩
        all_goals
          go_wp2_with fail
          go_roundg (g0 - 1)
          case rel => exact ⟨k + 1, by omega, by omega, by go_num, rfl, HE.out.trans HR.out⟩
          case measure => omega
      · rcases hc with h5 | h5
        · have n5 := ne_of _ _ _ h5
          by_cases h6 : k + 1 < s.size
          · cases h7 : ((s[k + 1].toNat : Int) == 47)
            · have n7 := ne_of _ _ _ h7
              have HE := Lib.hid (Tx.skp_stop s k hlt hb (by rintro ⟨_, _, a⟩; rw [a] at h7; simp at h7))
              clear hb
              go_wp2_with fail
              go_ret
              exact ⟨lret_int (by rw [← HR.out, HE.out]), rfl⟩
            · have n7 := ne_of _ _ _ h7
              have HE := Lib.hid (Tx.skp_rem s k h6 (by simp at h5; omega) (by simp at h7; omega))
              have HG : Hid (k + 1 ≤ Tx.wend Tx.inl s k) := Lib.hid (by
                rw [← Tx.wend_in Tx.inl s k hlt (by unfold Tx.inl; simp at h5 ⊢; omega)]; exact Tx.wend_ge _ _ _)
              clear hb
              go_wp2_with fail
              clear h1 h2 h3 h4 h5 h7 n5 n7 h6
              go_loopg [1] (s.size - k) (fun g v wr => ∃ j : Nat, j ≤ s.size ∧ s.size - j ≤ g ∧ v = .int .i64 j ∧ w = wr ∧ k ≤ j ∧ Hid (Tx.wend Tx.inl s j = Tx.wend Tx.inl s k))
              case atStart => exact ⟨k, hk, Nat.le_refl _, rfl, rfl, Nat.le_refl _, rfl⟩
              case round =>
                obtain ⟨j, hj, hgj, rfl, rfl, hkj, HW⟩ := hrel
                by_cases hjt : j < s.size
                · cases n10 : ((s[j].toNat : Int) != 10)
                  · have HO := Lib.hid (Tx.wend_out Tx.inl s j hjt (by unfold Tx.inl; simpa using n10))
                    go_wp2_with fail
                    go_roundg (g0 - 1)
                    case rel =>
                      have e1 := HG.out
                      have e2 := HW.out
                      have e3 := HO.out
                      rw [e3] at e2
                      exact ⟨j, hj, by omega, rfl, rfl, Lib.hid (by rw [e2]; exact HE.out.trans HR.out)⟩
                    case measure =>
                      have e1 := HG.out
                      have e2 := HW.out
                      have e3 := HO.out
                      omega
                  · have HO := Lib.hid (Tx.wend_in Tx.inl s j hjt (by unfold Tx.inl; simpa using n10))
                    go_wp2_with fail
                    go_roundg (gk - 1)
                    case rel => exact ⟨j + 1, by omega, by omega, by go_num, rfl, by omega, HO.out.trans HW.out⟩
                    case measure => omega
                · have HO := Lib.hid (Tx.wend_end Tx.inl s j (by omega))
                  go_wp2_with fail
                  go_roundg (g0 - 1)
                  case rel =>
                    have e1 := HG.out
                    have e2 := HW.out
                    have e3 := HO.out
                    rw [e3] at e2
                    exact ⟨j, hj, by omega, rfl, rfl, Lib.hid (by rw [e2]; exact HE.out.trans HR.out)⟩
                  case measure =>
                    have e1 := HG.out
                    have e2 := HW.out
                    have e3 := HO.out
                    omega
          · have HE := Lib.hid (Tx.skp_stop s k hlt hb (by rintro ⟨_, a, _⟩; exact h6 a))
            clear hb
            go_wp2_with fail
            go_ret
            exact ⟨lret_int (by rw [← HR.out, HE.out]), rfl⟩
        · have n5 := ne_of _ _ _ h5
          have HE := Lib.hid (Tx.skp_stop s k hlt hb (by rintro ⟨a, _⟩; rw [a] at h5; simp at h5))
          clear hb
          go_wp2_with fail
          go_ret
          exact ⟨lret_int (by rw [← HR.out, HE.out]), rfl⟩
    · have HE := Lib.hid (Tx.skp_end s k (by omega))
      go_wp2_with fail
      go_ret
      exact ⟨lret_int (by rw [← HR.out, HE.out]), rfl⟩

end Go.Proofs.YtlpnkllhpienhaaDoor
