/-
  DERIVED. The document's Mark: the walk.
-/
import Derived.Test.YtlpnkllhpienhaaDoorMark
namespace Go.Proofs.YtlpnkllhpienhaaDoor
open Go.RowKit

def sgL : List Int := [123, 125, 40, 41, 59, 44, 42, 61, 60, 43, 45, 63]
def sgAt (k : Nat) : Int := sgL.getD k 0
theorem one_hit (c : Int) (k : Nat) (hk : k < 12) (h : (sgAt k == c) = true) : Tx.one c = true := by
  rw [beq_iff_eq] at h
  subst h
  rcases (show k = 0 ∨ k = 1 ∨ k = 2 ∨ k = 3 ∨ k = 4 ∨ k = 5 ∨ k = 6 ∨ k = 7 ∨ k = 8 ∨ k = 9 ∨ k = 10 ∨ k = 11 by omega) with rfl | rfl | rfl | rfl | rfl | rfl | rfl | rfl | rfl | rfl | rfl | rfl <;> rfl
theorem one_miss (c : Int) (h : ∀ k, k < 12 → (sgAt k == c) = false) : Tx.one c = false := by
  have h' : ∀ k, k < 12 → sgAt k ≠ c := fun k hk e => by have := h k hk; rw [e] at this; simp at this
  have a0 := h' 0 (by decide); have a1 := h' 1 (by decide); have a2 := h' 2 (by decide); have a3 := h' 3 (by decide)
  have a4 := h' 4 (by decide); have a5 := h' 5 (by decide); have a6 := h' 6 (by decide); have a7 := h' 7 (by decide)
  have a8 := h' 8 (by decide); have a9 := h' 9 (by decide); have a10 := h' 10 (by decide); have a11 := h' 11 (by decide)
  simp only [sgAt, sgL, List.getD_cons_zero, List.getD_cons_succ] at a0 a1 a2 a3 a4 a5 a6 a7 a8 a9 a10 a11
  unfold Tx.one
  rw [decide_eq_false_iff_not]
  omega
theorem sg_index : ∀ k : Nat, k < 12 → ∀ w : World, (Instr.index 9 (.string ⟨#[123, 125, 40, 41, 59, 44, 42, 61, 60, 43, 45, 63]⟩) (.int .i64 (k : Int))).run Tryd.prog w = .ok (.int .u8 (sgAt k)) w := by
  have x0 : ∀ w : World, (Instr.index 9 (.string ⟨#[123, 125, 40, 41, 59, 44, 42, 61, 60, 43, 45, 63]⟩) (.int .i64 ((0 : Nat) : Int))).run Tryd.prog w = .ok (.int .u8 (sgAt 0)) w := fun _ => by kernel_rfl
  have x1 : ∀ w : World, (Instr.index 9 (.string ⟨#[123, 125, 40, 41, 59, 44, 42, 61, 60, 43, 45, 63]⟩) (.int .i64 ((1 : Nat) : Int))).run Tryd.prog w = .ok (.int .u8 (sgAt 1)) w := fun _ => by kernel_rfl
  have x2 : ∀ w : World, (Instr.index 9 (.string ⟨#[123, 125, 40, 41, 59, 44, 42, 61, 60, 43, 45, 63]⟩) (.int .i64 ((2 : Nat) : Int))).run Tryd.prog w = .ok (.int .u8 (sgAt 2)) w := fun _ => by kernel_rfl
  have x3 : ∀ w : World, (Instr.index 9 (.string ⟨#[123, 125, 40, 41, 59, 44, 42, 61, 60, 43, 45, 63]⟩) (.int .i64 ((3 : Nat) : Int))).run Tryd.prog w = .ok (.int .u8 (sgAt 3)) w := fun _ => by kernel_rfl
  have x4 : ∀ w : World, (Instr.index 9 (.string ⟨#[123, 125, 40, 41, 59, 44, 42, 61, 60, 43, 45, 63]⟩) (.int .i64 ((4 : Nat) : Int))).run Tryd.prog w = .ok (.int .u8 (sgAt 4)) w := fun _ => by kernel_rfl
  have x5 : ∀ w : World, (Instr.index 9 (.string ⟨#[123, 125, 40, 41, 59, 44, 42, 61, 60, 43, 45, 63]⟩) (.int .i64 ((5 : Nat) : Int))).run Tryd.prog w = .ok (.int .u8 (sgAt 5)) w := fun _ => by kernel_rfl
  have x6 : ∀ w : World, (Instr.index 9 (.string ⟨#[123, 125, 40, 41, 59, 44, 42, 61, 60, 43, 45, 63]⟩) (.int .i64 ((6 : Nat) : Int))).run Tryd.prog w = .ok (.int .u8 (sgAt 6)) w := fun _ => by kernel_rfl
  have x7 : ∀ w : World, (Instr.index 9 (.string ⟨#[123, 125, 40, 41, 59, 44, 42, 61, 60, 43, 45, 63]⟩) (.int .i64 ((7 : Nat) : Int))).run Tryd.prog w = .ok (.int .u8 (sgAt 7)) w := fun _ => by kernel_rfl
  have x8 : ∀ w : World, (Instr.index 9 (.string ⟨#[123, 125, 40, 41, 59, 44, 42, 61, 60, 43, 45, 63]⟩) (.int .i64 ((8 : Nat) : Int))).run Tryd.prog w = .ok (.int .u8 (sgAt 8)) w := fun _ => by kernel_rfl
  have x9 : ∀ w : World, (Instr.index 9 (.string ⟨#[123, 125, 40, 41, 59, 44, 42, 61, 60, 43, 45, 63]⟩) (.int .i64 ((9 : Nat) : Int))).run Tryd.prog w = .ok (.int .u8 (sgAt 9)) w := fun _ => by kernel_rfl
  have x10 : ∀ w : World, (Instr.index 9 (.string ⟨#[123, 125, 40, 41, 59, 44, 42, 61, 60, 43, 45, 63]⟩) (.int .i64 ((10 : Nat) : Int))).run Tryd.prog w = .ok (.int .u8 (sgAt 10)) w := fun _ => by kernel_rfl
  have x11 : ∀ w : World, (Instr.index 9 (.string ⟨#[123, 125, 40, 41, 59, 44, 42, 61, 60, 43, 45, 63]⟩) (.int .i64 ((11 : Nat) : Int))).run Tryd.prog w = .ok (.int .u8 (sgAt 11)) w := fun _ => by kernel_rfl
  intro k hk w
  rcases (show k = 0 ∨ k = 1 ∨ k = 2 ∨ k = 3 ∨ k = 4 ∨ k = 5 ∨ k = 6 ∨ k = 7 ∨ k = 8 ∨ k = 9 ∨ k = 10 ∨ k = 11 by omega) with rfl | rfl | rfl | rfl | rfl | rfl | rfl | rfl | rfl | rfl | rfl | rfl
  · exact x0 w
  · exact x1 w
  · exact x2 w
  · exact x3 w
  · exact x4 w
  · exact x5 w
  · exact x6 w
  · exact x7 w
  · exact x8 w
  · exact x9 w
  · exact x10 w
  · exact x11 w
/-- Two bytes of a text. -/
theorem two_bytes (s : ByteArray) (i : Nat) (h : i + 1 < s.size) : (s.extract i (i + 2)).toList = [s[i], s[i + 1]] := by
  rw [Lib.extract_toList, Tx.drop_at s i (by omega), Tx.drop_at s (i + 1) h]
  rw [show i + 2 - i = 2 by omega]; rfl

theorem bytes_is (s : ByteArray) (i : Nat) (h : i + 1 < s.size) (a b : UInt8) : ((s.extract i (i + 2)).toList == [a, b]) = decide ((s[i].toNat : Int) = a.toNat ∧ (s[i + 1].toNat : Int) = b.toNat) := by
  rw [two_bytes s i h, Bool.eq_iff_iff, beq_iff_eq, decide_eq_true_iff]
  simp only [List.cons.injEq, and_true]
  constructor
  · rintro ⟨e1, e2⟩; rw [e1, e2]; exact ⟨rfl, rfl⟩
  · rintro ⟨e1, e2⟩; exact ⟨UInt8.toNat_inj.1 (by omega), UInt8.toNat_inj.1 (by omega)⟩
theorem two_case (s : ByteArray) (i : Nat) (h : i + 1 < s.size) :
    (Tx.two s[i].toNat s[i + 1].toNat = true ∧ (((s.extract i (i + 2)).toList == [45, 62]) = true ∨ (((s.extract i (i + 2)).toList == [45, 62]) = false ∧ ((s.extract i (i + 2)).toList == [61, 61]) = true) ∨
      (((s.extract i (i + 2)).toList == [45, 62]) = false ∧ ((s.extract i (i + 2)).toList == [61, 61]) = false ∧ ((s.extract i (i + 2)).toList == [33, 61]) = true) ∨
      (((s.extract i (i + 2)).toList == [45, 62]) = false ∧ ((s.extract i (i + 2)).toList == [61, 61]) = false ∧ ((s.extract i (i + 2)).toList == [33, 61]) = false ∧ ((s.extract i (i + 2)).toList == [62, 61]) = true))) ∨
    (Tx.two s[i].toNat s[i + 1].toNat = false ∧ ((s.extract i (i + 2)).toList == [45, 62]) = false ∧ ((s.extract i (i + 2)).toList == [61, 61]) = false ∧ ((s.extract i (i + 2)).toList == [33, 61]) = false ∧ ((s.extract i (i + 2)).toList == [62, 61]) = false) := by
  rw [bytes_is s i h 45 62, bytes_is s i h 61 61, bytes_is s i h 33 61, bytes_is s i h 62 61]
  unfold Tx.two
  simp only [decide_eq_true_iff, decide_eq_false_iff_not, show (45 : UInt8).toNat = 45 from rfl, show (62 : UInt8).toNat = 62 from rfl, show (61 : UInt8).toNat = 61 from rfl, show (33 : UInt8).toNat = 33 from rfl]
  omega

set_option maxHeartbeats 1600000 in
theorem refMark_any (s : ByteArray) (i : Nat) (w : World) (hs : s.size ≤ 5000000) (hi : i < s.size) :
    Calls Tryd.prog 20 #[.string s, .int .i64 i] w fun e w' => e = .returned (.int .i64 (Tx.mrk s i)) ∧ ∃ m, w' = w.drewN m := by
  generalize hmm : Tx.mrk s i = mm
  have HMM := Lib.hid hmm
  clear hmm
  by_cases h1 : i + 1 < s.size
  · rcases two_case s i h1 with ⟨h2, hq⟩ | ⟨h2, q1, q2, q3, q4⟩
    · have HM := Lib.hid (Tx.mrk_two s i h1 h2)
      clear h2
      rcases hq with q1 | ⟨q1, q2⟩ | ⟨q1, q2, q3⟩ | ⟨q1, q2, q3, q4⟩
      all_goals
        go_enter Tryd.func20, Tryd.ntmps20
        go_wp2_with fail
        go_ret
        exact ⟨lret_int (by rw [← HMM.out, HM.out]; rfl), 0, rfl⟩
    · have HM := Lib.hid (Tx.mrk_one s i hi (fun _ => h2))
      clear h2
      go_enter Tryd.func20, Tryd.ntmps20
      go_wp2_with fail
      clear q1 q2 q3 q4
      go_loopw [7] (fun v wr => ∃ k : Nat, k ≤ 12 ∧ v = .int .i64 k ∧ (∃ m, wr = w.drewN m) ∧ Hid (∀ j, j < k → (sgAt j == (s[i].toNat : Int)) = false)) (fun v _ => 12 - (Lib.intOf v).toNat)
      case atStart => exact ⟨0, Nat.zero_le _, rfl, ⟨0, rfl⟩, Lib.hid (fun j hj => absurd hj (by omega))⟩
      case round =>
        obtain ⟨k, hk, rfl, ⟨m, rfl⟩, HR⟩ := hrel
        by_cases hlt : k < 12
        · have hx := sg_index k hlt
          cases he : (sgAt k == (s[i].toNat : Int))
          · have HE := Lib.hid he
            go_wp2_with fail
            go_quiet (fail)
            go_wp2_with fail
            go_roundw
            case rel => exact ⟨k + 1, by omega, by go_num, ⟨_, rfl⟩, Lib.hid (fun j hj => by
              rcases Nat.lt_or_ge j k with h | h
              · exact HR.out j h
              · obtain rfl : j = k := by omega
                exact HE.out)⟩
            case measure => simp [Lib.intOf]; omega
          · have HE := Lib.hid he
            go_wp2_with fail
            go_quiet (fail)
            go_wp2_with fail
            go_ret
            exact ⟨lret_int (by rw [← HMM.out, HM.out, one_hit _ k hlt HE.out]; rfl), _, World.drewN_drewN _ _ _⟩
        · go_wp2_with fail
          go_ret
          exact ⟨lret_int (by rw [← HMM.out, HM.out, one_miss _ (fun j hj => HR.out j (by omega))]; rfl), _, rfl⟩
  · have HM := Lib.hid (Tx.mrk_one s i hi (fun h => absurd h h1))
    go_enter Tryd.func20, Tryd.ntmps20
    go_wp2_with fail
    go_loopw [7] (fun v wr => ∃ k : Nat, k ≤ 12 ∧ v = .int .i64 k ∧ (∃ m, wr = w.drewN m) ∧ Hid (∀ j, j < k → (sgAt j == (s[i].toNat : Int)) = false)) (fun v _ => 12 - (Lib.intOf v).toNat)
    case atStart => exact ⟨0, Nat.zero_le _, rfl, ⟨0, rfl⟩, Lib.hid (fun j hj => absurd hj (by omega))⟩
    case round =>
      obtain ⟨k, hk, rfl, ⟨m, rfl⟩, HR⟩ := hrel
      by_cases hlt : k < 12
      · have hx := sg_index k hlt
        cases he : (sgAt k == (s[i].toNat : Int))
        · have HE := Lib.hid he
          go_wp2_with fail
          go_quiet (fail)
          go_wp2_with fail
          go_roundw
          case rel => exact ⟨k + 1, by omega, by go_num, ⟨_, rfl⟩, Lib.hid (fun j hj => by
            rcases Nat.lt_or_ge j k with h | h
            · exact HR.out j h
            · obtain rfl : j = k := by omega
              exact HE.out)⟩
          case measure => simp [Lib.intOf]; omega
        · have HE := Lib.hid he
          go_wp2_with fail
          go_quiet (fail)
          go_wp2_with fail
          go_ret
          exact ⟨lret_int (by rw [← HMM.out, HM.out, one_hit _ k hlt HE.out]; rfl), _, World.drewN_drewN _ _ _⟩
      · go_wp2_with fail
        go_ret
        exact ⟨lret_int (by rw [← HMM.out, HM.out, one_miss _ (fun j hj => HR.out j (by omega))]; rfl), _, rfl⟩

end Go.Proofs.YtlpnkllhpienhaaDoor
