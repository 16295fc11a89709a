/-
  DERIVED. The walks of the small functions on floats: the test of no number, the sign, the two orders, the class, the likeness.
-/
import Derived.Test.YtelhokjjllikhaaRows
import Derived.Test.YtelhokjjllikhaaKey
import Derived.WalkKit
import Derived.WalkSpells
import Derived.WalkLawsBesides
import Derived.Deep.QuietTactic
import Derived.BigQuiet
import Derived.Lib.Hide
namespace Go.Proofs.Ytelhokjjllikhaa
open Go.RowKit

set_option maxHeartbeats 400000 in
theorem isnan_any (a : Nat) (w : World) :
    Calls Try.prog 24 #[.float .f64 a] w fun e w' => e = .returned (.bool (Fl.nan a)) ∧ w = w' := by
  go_enter Try.func24, Try.ntmps24
  go_wp2
  go_ret
  exact ⟨by rw [Fl.t_nan]; rfl, rfl⟩

theorem bits31 (a : Nat) (w : World) : (callFunc 31 #[.float .f64 a]).run Try.prog w = .ok (.value (.int .u64 a)) w := by
  rw [run_callFunc_extern Try.func31 (by kernel_rfl) (by kernel_rfl) (by kernel_rfl) (e := Extern.MathFloatBits.float64bits) (by kernel_rfl)]
  rfl
theorem wrap_neg (a : Nat) : decide (wrap64 (a : Int) < 0) = Fl.neg a := by
  unfold wrap64 Fl.neg
  rw [Bool.eq_iff_iff]; simp only [decide_eq_true_eq, beq_iff_eq]
  omega

set_option maxHeartbeats 400000 in
theorem signbit_any (a : Nat) (w : World) :
    Calls Try.prog 25 #[.float .f64 a] w fun e w' => e = .returned (.bool (Fl.neg a)) ∧ w = w' := by
  have hb := bits31 a
  go_enter Try.func25, Try.ntmps25
  go_wp2
  go_ret
  exact ⟨by rw [← wrap_neg a]; rfl, rfl⟩

set_option maxHeartbeats 400000 in
theorem less_any (a b : Nat) (w : World) :
    Calls Try.prog 20 #[.float .f64 a, .float .f64 b] w fun e w' => e = .returned (.bool (Fl.less a b)) ∧ w = w' := by
  cases na : Fl.nan a
  · cases nb : Fl.nan b
    · by_cases h : Fl.sg a = Fl.sg b
      · have t1 : (FloatKind.f64.format.order a b == some .eq) = true := by rw [Fl.t_eq, na, nb]; simp [h]
        rw [Fl.less_sg_eq a b na nb h]
        clear h
        cases sa : Fl.neg a
        all_goals
          go_enter Try.func20, Try.ntmps20
          go_wp2_with (first | (go_at_call 24; refine (isnan_any _ _).mono ?_; rintro e w' ⟨rfl, rfl⟩) | (go_at_call 25; refine (signbit_any _ _).mono ?_; rintro e w' ⟨rfl, rfl⟩))
          go_ret
          exact ⟨rfl, rfl⟩
      · have t1 : (FloatKind.f64.format.order a b == some .eq) = false := by rw [Fl.t_eq, na, nb]; simp [h]
        have t2 : (FloatKind.f64.format.order a b == some .lt) = Fl.less a b := by rw [Fl.t_lt, na, nb, Fl.less_sg_ne a b na nb h]; simp
        clear h
        go_enter Try.func20, Try.ntmps20
        go_wp2_with (go_at_call 24; refine (isnan_any _ _).mono ?_; rintro e w' ⟨rfl, rfl⟩)
        go_ret
        exact ⟨rfl, rfl⟩
    · rw [Fl.less_nan_r a b na nb]
      go_enter Try.func20, Try.ntmps20
      go_wp2_with (go_at_call 24; refine (isnan_any _ _).mono ?_; rintro e w' ⟨rfl, rfl⟩)
      go_ret
      exact ⟨rfl, rfl⟩
  · rw [Fl.less_nan_l a b na]
    go_enter Try.func20, Try.ntmps20
    go_wp2_with (go_at_call 24; refine (isnan_any _ _).mono ?_; rintro e w' ⟨rfl, rfl⟩)
    go_ret
    exact ⟨rfl, rfl⟩

end Go.Proofs.Ytelhokjjllikhaa
