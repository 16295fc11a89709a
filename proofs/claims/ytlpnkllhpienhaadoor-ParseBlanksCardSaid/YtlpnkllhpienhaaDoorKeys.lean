/-
  DERIVED. What the two tables hold when a call begins; the walks of 'is it a Key?', of both.
-/
import Derived.Test.YtlpnkllhpienhaaDoorRuns
namespace Go.Proofs.YtlpnkllhpienhaaDoor
open Go.RowKit

/-- The Marks of two bytes. -/
def Tx.pw : List (List UInt8) := [[45, 62], [61, 61], [33, 61], [62, 61]]
def Tx.prAt (k : Nat) : ByteArray := ⟨(Tx.pw.getD k []).toArray⟩
/-- The tables lie as the program's text lays them. -/
structure Gl (w : World) : Prop where
  key : ∀ k, k < 10 → w.cell? ⟨1, k, none⟩ = some (.string (Tx.keyAt k))
  pair : ∀ k, k < 4 → w.cell? ⟨0, k, none⟩ = some (.string (Tx.prAt k))
  two : 2 ≤ w.heap.size
theorem Gl.below {w w' : World} {B : Nat} (h : Gl w) (hb : Below B w w') (h2 : 2 ≤ B) : Gl w' :=
  ⟨fun k hk => (hb.cell (p := ⟨1, k, none⟩) (by show 1 < B; omega)).trans (h.key k hk), fun k hk => (hb.cell (p := ⟨0, k, none⟩) (by show 0 < B; omega)).trans (h.pair k hk), Nat.le_trans h.two hb.size⟩

theorem keys_index : ∀ k : Nat, k < 10 → ∀ w : World, (Instr.index 115 (.agg #[.string (Tx.keyAt 0), .string (Tx.keyAt 1), .string (Tx.keyAt 2), .string (Tx.keyAt 3), .string (Tx.keyAt 4), .string (Tx.keyAt 5), .string (Tx.keyAt 6), .string (Tx.keyAt 7), .string (Tx.keyAt 8), .string (Tx.keyAt 9)]) (.int .i64 (k : Int))).run Tryd.prog w = .ok (.string (Tx.keyAt k)) w := by
  have x0 : ∀ w : World, (Instr.index 115 (.agg #[.string (Tx.keyAt 0), .string (Tx.keyAt 1), .string (Tx.keyAt 2), .string (Tx.keyAt 3), .string (Tx.keyAt 4), .string (Tx.keyAt 5), .string (Tx.keyAt 6), .string (Tx.keyAt 7), .string (Tx.keyAt 8), .string (Tx.keyAt 9)]) (.int .i64 ((0 : Nat) : Int))).run Tryd.prog w = .ok (.string (Tx.keyAt 0)) w := fun _ => by kernel_rfl
  have x1 : ∀ w : World, (Instr.index 115 (.agg #[.string (Tx.keyAt 0), .string (Tx.keyAt 1), .string (Tx.keyAt 2), .string (Tx.keyAt 3), .string (Tx.keyAt 4), .string (Tx.keyAt 5), .string (Tx.keyAt 6), .string (Tx.keyAt 7), .string (Tx.keyAt 8), .string (Tx.keyAt 9)]) (.int .i64 ((1 : Nat) : Int))).run Tryd.prog w = .ok (.string (Tx.keyAt 1)) w := fun _ => by kernel_rfl
  have x2 : ∀ w : World, (Instr.index 115 (.agg #[.string (Tx.keyAt 0), .string (Tx.keyAt 1), .string (Tx.keyAt 2), .string (Tx.keyAt 3), .string (Tx.keyAt 4), .string (Tx.keyAt 5), .string (Tx.keyAt 6), .string (Tx.keyAt 7), .string (Tx.keyAt 8), .string (Tx.keyAt 9)]) (.int .i64 ((2 : Nat) : Int))).run Tryd.prog w = .ok (.string (Tx.keyAt 2)) w := fun _ => by kernel_rfl
  have x3 : ∀ w : World, (Instr.index 115 (.agg #[.string (Tx.keyAt 0), .string (Tx.keyAt 1), .string (Tx.keyAt 2), .string (Tx.keyAt 3), .string (Tx.keyAt 4), .string (Tx.keyAt 5), .string (Tx.keyAt 6), .string (Tx.keyAt 7), .string (Tx.keyAt 8), .string (Tx.keyAt 9)]) (.int .i64 ((3 : Nat) : Int))).run Tryd.prog w = .ok (.string (Tx.keyAt 3)) w := fun _ => by kernel_rfl
  have x4 : ∀ w : World, (Instr.index 115 (.agg #[.string (Tx.keyAt 0), .string (Tx.keyAt 1), .string (Tx.keyAt 2), .string (Tx.keyAt 3), .string (Tx.keyAt 4), .string (Tx.keyAt 5), .string (Tx.keyAt 6), .string (Tx.keyAt 7), .string (Tx.keyAt 8), .string (Tx.keyAt 9)]) (.int .i64 ((4 : Nat) : Int))).run Tryd.prog w = .ok (.string (Tx.keyAt 4)) w := fun _ => by kernel_rfl
  have x5 : ∀ w : World, (Instr.index 115 (.agg #[.string (Tx.keyAt 0), .string (Tx.keyAt 1), .string (Tx.keyAt 2), .string (Tx.keyAt 3), .string (Tx.keyAt 4), .string (Tx.keyAt 5), .string (Tx.keyAt 6), .string (Tx.keyAt 7), .string (Tx.keyAt 8), .string (Tx.keyAt 9)]) (.int .i64 ((5 : Nat) : Int))).run Tryd.prog w = .ok (.string (Tx.keyAt 5)) w := fun _ => by kernel_rfl
  have x6 : ∀ w : World, (Instr.index 115 (.agg #[.string (Tx.keyAt 0), .string (Tx.keyAt 1), .string (Tx.keyAt 2), .string (Tx.keyAt 3), .string (Tx.keyAt 4), .string (Tx.keyAt 5), .string (Tx.keyAt 6), .string (Tx.keyAt 7), .string (Tx.keyAt 8), .string (Tx.keyAt 9)]) (.int .i64 ((6 : Nat) : Int))).run Tryd.prog w = .ok (.string (Tx.keyAt 6)) w := fun _ => by kernel_rfl
  have x7 : ∀ w : World, (Instr.index 115 (.agg #[.string (Tx.keyAt 0), .string (Tx.keyAt 1), .string (Tx.keyAt 2), .string (Tx.keyAt 3), .string (Tx.keyAt 4), .string (Tx.keyAt 5), .string (Tx.keyAt 6), .string (Tx.keyAt 7), .string (Tx.keyAt 8), .string (Tx.keyAt 9)]) (.int .i64 ((7 : Nat) : Int))).run Tryd.prog w = .ok (.string (Tx.keyAt 7)) w := fun _ => by kernel_rfl
  have x8 : ∀ w : World, (Instr.index 115 (.agg #[.string (Tx.keyAt 0), .string (Tx.keyAt 1), .string (Tx.keyAt 2), .string (Tx.keyAt 3), .string (Tx.keyAt 4), .string (Tx.keyAt 5), .string (Tx.keyAt 6), .string (Tx.keyAt 7), .string (Tx.keyAt 8), .string (Tx.keyAt 9)]) (.int .i64 ((8 : Nat) : Int))).run Tryd.prog w = .ok (.string (Tx.keyAt 8)) w := fun _ => by kernel_rfl
  have x9 : ∀ w : World, (Instr.index 115 (.agg #[.string (Tx.keyAt 0), .string (Tx.keyAt 1), .string (Tx.keyAt 2), .string (Tx.keyAt 3), .string (Tx.keyAt 4), .string (Tx.keyAt 5), .string (Tx.keyAt 6), .string (Tx.keyAt 7), .string (Tx.keyAt 8), .string (Tx.keyAt 9)]) (.int .i64 ((9 : Nat) : Int))).run Tryd.prog w = .ok (.string (Tx.keyAt 9)) w := fun _ => by kernel_rfl
  intro k hk w
  rcases (show k = 0 ∨ k = 1 ∨ k = 2 ∨ k = 3 ∨ k = 4 ∨ k = 5 ∨ k = 6 ∨ k = 7 ∨ k = 8 ∨ k = 9 by omega) with rfl | rfl | rfl | rfl | rfl | rfl | rfl | rfl | rfl | rfl
  · exact x0 w
  · exact x1 w
  · exact x2 w
  · exact x3 w
  · exact x4 w
  · exact x5 w
  · exact x6 w
  · exact x7 w
  · exact x8 w
  · exact x9 w

theorem beq_swap (a b : List UInt8) : (a == b) = (b == a) := by rw [Bool.eq_iff_iff, beq_iff_eq, beq_iff_eq]; exact eq_comm

set_option maxHeartbeats 400000 in
theorem isKeyLex_any (s : ByteArray) (w : World) (hg : Gl w) :
    Calls Tryd.prog 69 #[.string s] w fun e w' => e = .returned (.bool (Tx.isKey s)) ∧ w = w' := by
  have c0 := hg.key 0 (by decide)
  have c1 := hg.key 1 (by decide)
  have c2 := hg.key 2 (by decide)
  have c3 := hg.key 3 (by decide)
  have c4 := hg.key 4 (by decide)
  have c5 := hg.key 5 (by decide)
  have c6 := hg.key 6 (by decide)
  have c7 := hg.key 7 (by decide)
  have c8 := hg.key 8 (by decide)
  have c9 := hg.key 9 (by decide)
  go_enter Tryd.func69, Tryd.ntmps69
  go_wp2
  clear c0 c1 c2 c3 c4 c5 c6 c7 c8 c9
  go_loop [6] (fun i => ∃ k : Nat, k ≤ 10 ∧ i = .int .i64 k ∧ Hid (∀ j, j < k → (s.data.toList == (Tx.keyAt j).data.toList) = false)) (fun i => 10 - (intOf i).toNat)
  case atStart => exact ⟨0, Nat.zero_le _, rfl, Lib.hid (fun j hj => absurd hj (by omega))⟩
  case round =>
    obtain ⟨k, hk, rfl, HR⟩ := hrel
    by_cases hlt : k < 10
    · have hx := keys_index k hlt
      cases he : (s.toList == (Tx.keyAt k).toList)
      · have HE : (s.data.toList == (Tx.keyAt k).data.toList) = false := by rw [← Lib.toList_data, ← Lib.toList_data]; exact he
        replace HE := Lib.hid HE
        go_wp2
        go_round
        case rel => exact ⟨k + 1, by omega, by go_num, Lib.hid (fun j hj => by
          rcases Nat.lt_or_ge j k with h | h
          · exact HR.out j h
          · obtain rfl : j = k := by omega
            exact HE.out)⟩
        case measure => simp [intOf]; omega
      · have HE : (s.data.toList == (Tx.keyAt k).data.toList) = true := by rw [← Lib.toList_data, ← Lib.toList_data]; exact he
        replace HE := Lib.hid HE
        go_wp2
        go_ret
        exact ⟨lret_bool (Tx.isKey_hit s k hlt HE.out).symm, rfl⟩
    · go_wp2
      go_ret
      exact ⟨lret_bool (Tx.isKey_miss s (fun j hj => HR.out j (by omega))).symm, rfl⟩

set_option maxHeartbeats 800000 in
theorem isKeyRef_any (s : ByteArray) (w : World) :
    Calls Tryd.prog 19 #[.string s] w fun e w' => e = .returned (.bool (Tx.isKey s)) ∧ Below w.heap.size w w' := by
  go_enter Tryd.func19, Tryd.ntmps19
  go_wp2
  go_loopw [4] (fun i wr => ∃ k : Nat, k ≤ 10 ∧ i = .int .i64 k ∧ Hid (∀ j, j < 10 → wr.cell? ⟨w.heap.size, j, none⟩ = some (.string (Tx.keyAt j))) ∧ Hid (Below w.heap.size w wr) ∧ Hid (∀ j, j < k → (s.data.toList == (Tx.keyAt j).data.toList) = false)) (fun i _ => 10 - (Lib.intOf i).toNat)
  case atStart =>
    refine ⟨0, Nat.zero_le _, rfl, Lib.hid ?_, Lib.hid ((Below.refl _ _).alloc (Nat.le_refl _) _), Lib.hid (fun j hj => absurd hj (by omega))⟩
    intro k hk
    rcases (show k = 0 ∨ k = 1 ∨ k = 2 ∨ k = 3 ∨ k = 4 ∨ k = 5 ∨ k = 6 ∨ k = 7 ∨ k = 8 ∨ k = 9 by omega) with rfl | rfl | rfl | rfl | rfl | rfl | rfl | rfl | rfl | rfl <;> (rw [World.cell?_alloc_new]; rfl)
  case round =>
    obtain ⟨k, hk, rfl, HC, HB, HR⟩ := hrel
    by_cases hlt : k < 10
    · have hx := HC.out k hlt
      cases he : (s.toList == (Tx.keyAt k).toList)
      · have HE : (s.data.toList == (Tx.keyAt k).data.toList) = false := by rw [← Lib.toList_data, ← Lib.toList_data]; exact he
        replace HE := Lib.hid HE
        have he' : ((Tx.keyAt k).toList == s.toList) = false := by rw [beq_swap]; exact he
        clear he
        go_wp2
        go_roundw
        case rel => exact ⟨k + 1, by omega, by go_num, HC, HB, Lib.hid (fun j hj => by
          rcases Nat.lt_or_ge j k with h | h
          · exact HR.out j h
          · obtain rfl : j = k := by omega
            exact HE.out)⟩
        case measure => simp [Lib.intOf]; omega
      · have HE : (s.data.toList == (Tx.keyAt k).data.toList) = true := by rw [← Lib.toList_data, ← Lib.toList_data]; exact he
        replace HE := Lib.hid HE
        have he' : ((Tx.keyAt k).toList == s.toList) = true := by rw [beq_swap]; exact he
        clear he
        go_wp2
        go_ret
        exact ⟨lret_bool (Tx.isKey_hit s k hlt HE.out).symm, HB.out⟩
    · go_wp2
      go_ret
      exact ⟨lret_bool (Tx.isKey_miss s (fun j hj => HR.out j (by omega))).symm, HB.out⟩

end Go.Proofs.YtlpnkllhpienhaaDoor
