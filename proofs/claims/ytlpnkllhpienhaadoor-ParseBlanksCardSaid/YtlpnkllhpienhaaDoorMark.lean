/-
  DERIVED. The walks of a Mark's answer, of both.
-/
import Derived.Test.YtlpnkllhpienhaaDoorNumber
namespace Go.Proofs.YtlpnkllhpienhaaDoor
open Go.RowKit

theorem prAt_list (k : Nat) : (Tx.prAt k).data.toList = Tx.pw.getD k [] := by unfold Tx.prAt; simp
theorem prAt_size (k : Nat) (hk : k < 4) : (Tx.prAt k).size = 2 := by
  match k, hk with
  | 0, _ => rfl
  | 1, _ => rfl
  | 2, _ => rfl
  | 3, _ => rfl
theorem preB_pair (s : ByteArray) (i k : Nat) (a b : UInt8) (h : Tx.pw.getD k [] = [a, b]) : preB s i (Tx.prAt k) = true ↔ ∃ h : i + 1 < s.size, s[i] = a ∧ s[i + 1] = b := by
  unfold preB; rw [prAt_list, h]; exact pre2 s i a b
theorem u8_of (x : UInt8) (n : Nat) (hn : n < 256) (h : (x.toNat : Int) = n) : x = UInt8.ofNat n := by
  apply UInt8.toNat_inj.1; simp; omega
theorem pairs_two (s : ByteArray) (i : Nat) : (∃ k, k < 4 ∧ preB s i (Tx.prAt k) = true) ↔ ∃ h : i + 1 < s.size, Tx.two s[i].toNat s[i + 1].toNat = true := by
  constructor
  · rintro ⟨k, hk, h⟩
    rcases (show k = 0 ∨ k = 1 ∨ k = 2 ∨ k = 3 by omega) with rfl | rfl | rfl | rfl
    · obtain ⟨h1, a, b⟩ := (preB_pair s i 0 45 62 rfl).1 h; exact ⟨h1, by rw [a, b]; rfl⟩
    · obtain ⟨h1, a, b⟩ := (preB_pair s i 1 61 61 rfl).1 h; exact ⟨h1, by rw [a, b]; rfl⟩
    · obtain ⟨h1, a, b⟩ := (preB_pair s i 2 33 61 rfl).1 h; exact ⟨h1, by rw [a, b]; rfl⟩
    · obtain ⟨h1, a, b⟩ := (preB_pair s i 3 62 61 rfl).1 h; exact ⟨h1, by rw [a, b]; rfl⟩
  · rintro ⟨h1, h⟩
    unfold Tx.two at h
    rw [decide_eq_true_iff] at h
    rcases h with ⟨a, b⟩ | ⟨a, b⟩ | ⟨a, b⟩ | ⟨a, b⟩
    · exact ⟨0, by omega, (preB_pair s i 0 45 62 rfl).2 ⟨h1, u8_of _ 45 (by omega) a, u8_of _ 62 (by omega) b⟩⟩
    · exact ⟨1, by omega, (preB_pair s i 1 61 61 rfl).2 ⟨h1, u8_of _ 61 (by omega) a, u8_of _ 61 (by omega) b⟩⟩
    · exact ⟨2, by omega, (preB_pair s i 2 33 61 rfl).2 ⟨h1, u8_of _ 33 (by omega) a, u8_of _ 61 (by omega) b⟩⟩
    · exact ⟨3, by omega, (preB_pair s i 3 62 61 rfl).2 ⟨h1, u8_of _ 62 (by omega) a, u8_of _ 61 (by omega) b⟩⟩
theorem pair_hit (s : ByteArray) (i k : Nat) (hk : k < 4) (h : preB s i (Tx.prAt k) = true) : Tx.mrk s i = 2 ∧ i + 2 ≤ s.size := by
  obtain ⟨h1, h2⟩ := (pairs_two s i).1 ⟨k, hk, h⟩
  exact ⟨Tx.mrk_two s i h1 h2, by omega⟩
theorem pair_miss (s : ByteArray) (i : Nat) (hi : i < s.size) (h : ∀ k, k < 4 → preB s i (Tx.prAt k) = false) : Tx.mrk s i = if Tx.one s[i].toNat then 1 else 0 := by
  apply Tx.mrk_one s i hi
  intro h1
  rw [Bool.eq_false_iff]
  intro h2
  obtain ⟨k, hk, h3⟩ := (pairs_two s i).2 ⟨h1, h2⟩
  rw [h k hk] at h3
  cases h3

/-- The Marks of one byte. -/
def singles : ByteArray := ⟨#[123, 125, 40, 41, 59, 44, 42, 61, 60, 43, 45, 63]⟩
theorem singles_all : ∀ n : Fin 256, decide (Lib.indexByte singles.data.toList (UInt8.ofNat n.val) < 0) = !Tx.one (n.val : Int) := by decide +kernel
theorem singles_at (x : UInt8) : decide (Lib.indexByte singles.data.toList (x.toNat : Int).toNat.toUInt8 < 0) = !Tx.one (x.toNat : Int) := by
  have h := singles_all ⟨x.toNat, x.toNat_lt⟩
  have e : (x.toNat : Int).toNat.toUInt8 = UInt8.ofNat x.toNat := rfl
  rw [e]; exact h
def singleI (c : Int) : Int := Lib.indexByte singles.data.toList c.toNat.toUInt8
theorem singles_any (c : Int) (w : World) :
    Calls Tryd.prog 72 #[.string singles, .int .u8 c] w fun e w' => e = .returned (.int .i64 (singleI c)) ∧ w = w' := indexByte_any _ _ w

theorem pairs_index : ∀ k : Nat, k < 4 → ∀ w : World, (Instr.index 112 (.agg #[.string (Tx.prAt 0), .string (Tx.prAt 1), .string (Tx.prAt 2), .string (Tx.prAt 3)]) (.int .i64 (k : Int))).run Tryd.prog w = .ok (.string (Tx.prAt k)) w := by
  have x0 : ∀ w : World, (Instr.index 112 (.agg #[.string (Tx.prAt 0), .string (Tx.prAt 1), .string (Tx.prAt 2), .string (Tx.prAt 3)]) (.int .i64 ((0 : Nat) : Int))).run Tryd.prog w = .ok (.string (Tx.prAt 0)) w := fun _ => by kernel_rfl
  have x1 : ∀ w : World, (Instr.index 112 (.agg #[.string (Tx.prAt 0), .string (Tx.prAt 1), .string (Tx.prAt 2), .string (Tx.prAt 3)]) (.int .i64 ((1 : Nat) : Int))).run Tryd.prog w = .ok (.string (Tx.prAt 1)) w := fun _ => by kernel_rfl
  have x2 : ∀ w : World, (Instr.index 112 (.agg #[.string (Tx.prAt 0), .string (Tx.prAt 1), .string (Tx.prAt 2), .string (Tx.prAt 3)]) (.int .i64 ((2 : Nat) : Int))).run Tryd.prog w = .ok (.string (Tx.prAt 2)) w := fun _ => by kernel_rfl
  have x3 : ∀ w : World, (Instr.index 112 (.agg #[.string (Tx.prAt 0), .string (Tx.prAt 1), .string (Tx.prAt 2), .string (Tx.prAt 3)]) (.int .i64 ((3 : Nat) : Int))).run Tryd.prog w = .ok (.string (Tx.prAt 3)) w := fun _ => by kernel_rfl
  intro k hk w
  rcases (show k = 0 ∨ k = 1 ∨ k = 2 ∨ k = 3 by omega) with rfl | rfl | rfl | rfl
  · exact x0 w
  · exact x1 w
  · exact x2 w
  · exact x3 w

set_option maxHeartbeats 800000 in
theorem mark_any (s : ByteArray) (i : Nat) (w : World) (hs : s.size ≤ 5000000) (hi : i < s.size) (hg : Gl w) :
    Calls Tryd.prog 55 #[.string s, .int .i64 i] w fun e w' =>
      e = .returned (.tuple #[.agg #[.int .i64 (Tx.markA s i).sg.kind, .int .i64 (Tx.markA s i).sg.pos, .string (Tx.markA s i).sg.text, .int .i64 (Tx.markA s i).sg.num], .int .i64 (Tx.markA s i).stop, .int .i64 (Tx.markA s i).err]) ∧ Below w.heap.size w w' := by
  have c0 := hg.pair 0 (by decide)
  have c1 := hg.pair 1 (by decide)
  have c2 := hg.pair 2 (by decide)
  have c3 := hg.pair 3 (by decide)
  have h1 : 0 < w.heap.size := Nat.lt_of_lt_of_le (by decide) hg.two
  generalize ha : Tx.markA s i = an
  have HA := Lib.hid ha
  clear ha
  go_enter Tryd.func55, Tryd.ntmps55
  go_wp2
  clear c0 c1 c2 c3
  go_loop [10] (fun v => ∃ k : Nat, k ≤ 4 ∧ v = .int .i64 k ∧ Hid (∀ j, j < k → preB s i (Tx.prAt j) = false)) (fun v => 4 - (intOf v).toNat)
  case atStart => exact ⟨0, Nat.zero_le _, rfl, Lib.hid (fun j hj => absurd hj (by omega))⟩
  case round =>
    obtain ⟨k, hk, rfl, HR⟩ := hrel
    by_cases hlt : k < 4
    · have hx := pairs_index k hlt
      cases hp : preB s i (Tx.prAt k)
      · have HP := Lib.hid hp
        go_wp2_with (go_at_call 65; refine (prefixFrom_any _ _ _ _).mono ?_; rintro e w' ⟨rfl, rfl⟩)
        go_round
        case rel => exact ⟨k + 1, by omega, by go_num, Lib.hid (fun j hj => by
          rcases Nat.lt_or_ge j k with h | h
          · exact HR.out j h
          · obtain rfl : j = k := by omega
            exact HP.out)⟩
        case measure => simp [intOf]; omega
      · obtain ⟨hm, h2⟩ := pair_hit s i k hlt hp
        have he : an = Tx.An.good s 4 i (i + 2) 0 := by rw [← HA.out]; unfold Tx.markA; rw [hm]; rfl
        replace he := Lib.hid he
        clear hm
        have hz2 := prAt_size k hlt
        go_wp2_with (first | (go_at_call 65; refine (prefixFrom_any _ _ _ _).mono ?_; rintro e w' ⟨rfl, rfl⟩) | (go_at_call 50; refine (right_any 4 s i (i + 2) _ (by omega) h2).mono ?_; rintro e w1 ⟨rfl, hb⟩; obtain ⟨hc, hf⟩ := bcell hb; have hz : w.heap.size < w1.heap.size := (by have := hb.size; simp at this; omega); have HB := Lib.hid hb; clear hb))
        replace he := he.out
        exact bodyPost_ret (v := .tuple #[.agg #[.int .i64 4, .int .i64 (i : Nat), .string (s.extract i (i + 2)), .int .i64 0], .int .i64 (i + 2 : Nat), .int .i64 0]) (by simp [results, Tryd.results55, go_sem, hc]) rfl ⟨by rw [he]; rfl, below4 HB.out _ _ _ _⟩
    · have hm := pair_miss s i hi (fun j hj => HR.out j (by omega))
      have hq := singles_at s[i]
      cases ho : Tx.one s[i].toNat
      · rw [ho] at hm hq
        have he : an = Tx.An.bad i 4 := by rw [← HA.out]; unfold Tx.markA; rw [hm]; rfl
        replace he := Lib.hid he
        have hq1 : singleI (s[i].toNat : Int) < 0 := of_decide_eq_true hq
        clear hm hq ho
        go_wp2_with (first | (go_at_call 72; refine (singles_any _ _).mono ?_; rintro e w' ⟨rfl, rfl⟩) | (go_at_call 68; refine (wrong_any _ _ _).mono ?_; rintro e w1 ⟨rfl, hb⟩; obtain ⟨hc, hf⟩ := bcell hb; have hz : w.heap.size < w1.heap.size := (by have := hb.size; simp at this; omega); have HB := Lib.hid hb; clear hb))
        replace he := he.out
        exact bodyPost_ret (v := .tuple #[.agg #[.int .i64 0, .int .i64 (i : Nat), .string ByteArray.empty, .int .i64 0], .int .i64 (i : Nat), .int .i64 4]) (by simp [results, Tryd.results55, go_sem, hc]) rfl ⟨by rw [he]; rfl, below4 HB.out _ _ _ _⟩
      · rw [ho] at hm hq
        have he : an = Tx.An.good s 4 i (i + 1) 0 := by rw [← HA.out]; unfold Tx.markA; rw [hm]; rfl
        replace he := Lib.hid he
        have hq1 : ¬ singleI (s[i].toNat : Int) < 0 := of_decide_eq_false hq
        clear hm hq ho
        go_wp2_with (first | (go_at_call 72; refine (singles_any _ _).mono ?_; rintro e w' ⟨rfl, rfl⟩) | (go_at_call 50; refine (right_any 4 s i (i + 1) _ (by omega) (by omega)).mono ?_; rintro e w1 ⟨rfl, hb⟩; obtain ⟨hc, hf⟩ := bcell hb; have hz : w.heap.size < w1.heap.size := (by have := hb.size; simp at this; omega); have HB := Lib.hid hb; clear hb))
        replace he := he.out
        exact bodyPost_ret (v := .tuple #[.agg #[.int .i64 4, .int .i64 (i : Nat), .string (s.extract i (i + 1)), .int .i64 0], .int .i64 (i + 1 : Nat), .int .i64 0]) (by simp [results, Tryd.results55, go_sem, hc]) rfl ⟨by rw [he]; rfl, below4 HB.out _ _ _ _⟩

end Go.Proofs.YtlpnkllhpienhaaDoor
