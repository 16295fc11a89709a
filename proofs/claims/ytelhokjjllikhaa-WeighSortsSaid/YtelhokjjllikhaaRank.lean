/-
  DERIVED. The walk of the rank over a row of floats.
-/
import Derived.Test.YtelhokjjllikhaaLike
namespace Go.Proofs.Ytelhokjjllikhaa
open Go.RowKit

namespace Fl
/-- How many of the row are less. -/
def cnt (zs : List Nat) (x : Nat) : Int := ((zs.countP fun y => less y x : Nat) : Int)
theorem cnt_le (zs : List Nat) (x : Nat) : 0 ≤ cnt zs x ∧ cnt zs x ≤ zs.length := by
  unfold cnt; have := List.countP_le_length (p := fun y => less y x) (l := zs); omega
theorem cnt_snoc (zs : List Nat) (x : Nat) (k : Nat) (h : k < zs.length) : cnt (zs.take (k + 1)) x = cnt (zs.take k) x + if less (zs.getD k 0) x then 1 else 0 := by
  unfold cnt
  rw [List.take_succ_eq_append_getElem h, List.countP_append]
  have e : zs.getD k 0 = zs[k] := by simp [List.getD, h]
  rw [e]
  simp only [List.countP_cons, List.countP_nil, Nat.zero_add]
  split <;> simp
end Fl

set_option maxHeartbeats 400000 in
theorem rank_row (x : Nat) (zs : List Nat) (b off cap : Nat) (w : World) (hl : zs.length ≤ 1000)
    (hcell : ∀ k, k < zs.length → w.cell? ⟨b, off + k, none⟩ = some (.float .f64 (zs.getD k 0))) :
    Calls Try.prog 16 #[.slice (some ⟨b, off, none⟩) zs.length cap, .float .f64 x] w fun e w' => e = .returned (.int .i64 (Fl.cnt zs x)) ∧ w = w' := by
  go_enter Try.func16, Try.ntmps16
  go_wp2
  go_loop [5, 10] (fun n i => ∃ k : Nat, k ≤ zs.length ∧ i = .int .i64 k ∧ n = .int .i64 (Fl.cnt (zs.take k) x)) (fun _ i => zs.length - (intOf i).toNat)
  case atStart => exact ⟨0, Nat.zero_le _, rfl, rfl⟩
  case round =>
    obtain ⟨k, hk, rfl, rfl⟩ := hrel
    have hd := Fl.cnt_le (zs.take k) x
    have hk2 : (zs.take k).length ≤ k := List.length_take_le _ _
    by_cases hlt : k < zs.length
    · have hc := hcell k hlt
      have hs := Fl.cnt_snoc zs x k hlt
      rw [show zs.getD k 0 = zs[k] by simp [List.getD, hlt]] at hs hc
      have HS := Lib.hid hs
      clear hs hcell
      cases hb : Fl.less zs[k] x
      all_goals
        go_wp2_with (go_at_call 20; refine (less_any _ _ _).mono ?_; rintro e w' ⟨rfl, rfl⟩)
        go_round
        case rel => exact ⟨k + 1, by omega, by go_num, by rw [HS.out, hb]; first | rfl | (simp; done)⟩
        case measure => simp [intOf]; omega
    · go_wp2
      go_ret
      exact ⟨by rw [List.take_of_length_le (by omega)]; rfl, rfl⟩

set_option maxHeartbeats 400000 in
theorem rank_nil (x : Nat) (a : Option Addr) (cap : Nat) (w : World) :
    Calls Try.prog 16 #[.slice a 0 cap, .float .f64 x] w fun e w' => e = .returned (.int .i64 0) ∧ w = w' := by
  go_enter Try.func16, Try.ntmps16
  go_wp2
  go_loop [5, 10] (fun n i => i = .int .i64 0 ∧ n = .int .i64 0) (fun _ _ => 0)
  case atStart => exact ⟨rfl, rfl⟩
  case round =>
    obtain ⟨rfl, rfl⟩ := hrel
    go_wp2
    go_ret
    exact ⟨rfl, rfl⟩

end Go.Proofs.Ytelhokjjllikhaa
