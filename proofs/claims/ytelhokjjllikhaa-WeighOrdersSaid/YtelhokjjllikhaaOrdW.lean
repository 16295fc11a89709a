/-
  DERIVED. The walk of the law on the order of three floats.
-/
import Derived.Test.YtelhokjjllikhaaLives
namespace Go.Proofs.Ytelhokjjllikhaa
open Go.RowKit

namespace Fl
theorem lt_less (a b : Nat) (h : (FloatKind.f64.format.order a b == some .lt) = true) : less a b = true := by
  rw [t_lt] at h
  simp only [Bool.and_eq_true, Bool.not_eq_true', decide_eq_true_eq] at h
  rw [less_sg_ne a b h.1.1 h.1.2 (by omega)]
  simpa using h.2
theorem less_self (a : Nat) : less a a = false := by unfold less; simp
theorem less_trans (a b c : Nat) (h : less a b = true) (g : less b c = true) : less a c = true := by
  unfold less at *; simp only [decide_eq_true_eq] at *; omega
theorem less_asymm (a b : Nat) (h : less a b = true) : less b a = false := by
  unfold less at *; simp only [decide_eq_true_eq, decide_eq_false_iff_not] at *; omega
theorem neither_same (a b : Nat) (h : less a b = false) (g : less b a = false) : same a b = true := by
  unfold less same at *; simp only [decide_eq_true_eq, decide_eq_false_iff_not] at *; omega
end Fl

set_option maxHeartbeats 800000 in
theorem orders_any (a b c : Nat) (w : World) (la : a < 18446744073709551616) (lb : b < 18446744073709551616) :
    Calls Try.prog 5 #[.float .f64 a, .float .f64 b, .float .f64 c] w fun e w' => e = .returned (.bool true) ∧ Below w.heap.size w w' := by
  have saa := Fl.less_self a
  have LA := Lib.hid la
  have LB := Lib.hid lb
  clear la lb
  cases hab : Fl.less a b
  · have hlt : (FloatKind.f64.format.order a b == some .lt) = false := by
      cases h : (FloatKind.f64.format.order a b == some .lt)
      · rfl
      · rw [Fl.lt_less a b h] at hab; exact absurd hab (by decide)
    cases hba : Fl.less b a
    · have hsm := Fl.neither_same a b hab hba
      go_enter Try.func5, Try.ntmps5
      go_wp2_with (first | (go_at_call 20; refine (less_any _ _ _).mono ?_; rintro e w' ⟨rfl, rfl⟩) | (go_at_call 11; refine (alike_any _ _ _ (by exact LA.out) (by exact LB.out)).mono ?_; rintro e w' ⟨rfl, rfl⟩) | (go_at_call 21; refine (refless_any _ _ _ (by exact LA.out) (by exact LB.out)).mono ?_; rintro e w' ⟨rfl, rfl⟩) | (go_at_call 7; refine (lives_any _).mono ?_; rintro e w' ⟨rfl, hbl⟩))
      go_ret
      exact ⟨rfl, by assumption⟩
    · go_enter Try.func5, Try.ntmps5
      go_wp2_with (first | (go_at_call 20; refine (less_any _ _ _).mono ?_; rintro e w' ⟨rfl, rfl⟩) | (go_at_call 21; refine (refless_any _ _ _ (by exact LA.out) (by exact LB.out)).mono ?_; rintro e w' ⟨rfl, rfl⟩) | (go_at_call 7; refine (lives_any _).mono ?_; rintro e w' ⟨rfl, hbl⟩))
      go_ret
      exact ⟨rfl, by assumption⟩
  · have hba := Fl.less_asymm a b hab
    cases hbc : Fl.less b c
    · cases hlt : (FloatKind.f64.format.order a b == some .lt)
      all_goals
        go_enter Try.func5, Try.ntmps5
        go_wp2_with (first | (go_at_call 20; refine (less_any _ _ _).mono ?_; rintro e w' ⟨rfl, rfl⟩) | (go_at_call 21; refine (refless_any _ _ _ (by exact LA.out) (by exact LB.out)).mono ?_; rintro e w' ⟨rfl, rfl⟩) | (go_at_call 7; refine (lives_any _).mono ?_; rintro e w' ⟨rfl, hbl⟩))
        go_ret
        exact ⟨rfl, by assumption⟩
    · have hac := Fl.less_trans a b c hab hbc
      cases hlt : (FloatKind.f64.format.order a b == some .lt)
      all_goals
        go_enter Try.func5, Try.ntmps5
        go_wp2_with (first | (go_at_call 20; refine (less_any _ _ _).mono ?_; rintro e w' ⟨rfl, rfl⟩) | (go_at_call 21; refine (refless_any _ _ _ (by exact LA.out) (by exact LB.out)).mono ?_; rintro e w' ⟨rfl, rfl⟩) | (go_at_call 7; refine (lives_any _).mono ?_; rintro e w' ⟨rfl, hbl⟩))
        go_ret
        exact ⟨rfl, by assumption⟩

end Go.Proofs.Ytelhokjjllikhaa
