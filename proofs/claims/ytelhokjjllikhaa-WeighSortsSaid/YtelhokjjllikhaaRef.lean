/-
  DERIVED. The walks of the document's class and order, and of the likeness of two floats.
-/
import Derived.Test.YtelhokjjllikhaaSmall
namespace Go.Proofs.Ytelhokjjllikhaa
open Go.RowKit

namespace Fl
/-- The document's class of a float. -/
def cls (x : Nat) : Int := if nan x then 2 else if x = 0 then 1 else 0
theorem ref_less (a b : Nat) (ha : nan a = false) (hb : nan b = false) (h : sg a = sg b) (la : a < 18446744073709551616) (lb : b < 18446744073709551616) :
    decide (cls a < cls b) = less a b := by
  rw [less_sg_eq a b ha hb h]
  unfold cls; rw [ha, hb]
  simp only [Bool.false_eq_true, if_false]
  unfold sg sgn rung at h
  unfold neg at h ⊢
  by_cases h0 : sg a = 0
  · have h1 : sg b = 0 := by rw [← h0]; exact (by unfold sg sgn rung neg; exact h.symm)
    rcases sg_zero a h0 la with rfl | rfl <;> rcases sg_zero b h1 lb with rfl | rfl <;> decide
  · have h1 : ¬ a = 0 := by intro e; subst e; exact h0 sg_lit0
    have h2 : ¬ b = 0 := by
      intro e; subst e
      apply h0
      unfold sg sgn rung neg
      rw [h]; decide
    rw [if_neg h1, if_neg h2]
    have h3 : (a / 9223372036854775808 % 2 == 1) = (b / 9223372036854775808 % 2 == 1) := by
      rw [Bool.eq_iff_iff]; simp only [beq_iff_eq]
      unfold sg sgn rung neg at h0
      split at h <;> split at h <;> simp_all <;> omega
    rw [h3]
    cases (b / 9223372036854775808 % 2 == 1) <;> rfl
end Fl

theorem quo0 (w : World) : (binOp .quo 23 (.float .f64 4607182418800017408) (.float .f64 0)).run Try.prog w = .ok (.float .f64 9218868437227405312) w :=
  run_float_arith w .quo 23 .f64 _ _ _ Fl.quo_pos
theorem quoM (w : World) : (binOp .quo 23 (.float .f64 4607182418800017408) (.float .f64 9223372036854775808)).run Try.prog w = .ok (.float .f64 18442240474082181120) w :=
  run_float_arith w .quo 23 .f64 _ _ _ Fl.quo_neg

set_option maxHeartbeats 400000 in
theorem class_any (a : Nat) (w : World) (la : a < 18446744073709551616) :
    Calls Try.prog 26 #[.float .f64 a] w fun e w' => e = .returned (.int .i64 (Fl.cls a)) ∧ w = w' := by
  cases na : Fl.nan a
  · have t0 : (FloatKind.f64.format.order a a != some .eq) = false := by rw [Fl.t_nan, na]
    by_cases h : Fl.sg a = 0
    · rcases Fl.sg_zero a h la with rfl | rfl
      · have t1 : (FloatKind.f64.format.order 0 0 == some .eq) = true := by decide +kernel
        have t2 : (FloatKind.f64.format.order 9218868437227405312 0 == some .gt) = true := by decide +kernel
        have hq := quo0
        rw [show Fl.cls 0 = 1 by decide]
        clear h la na
        go_enter Try.func26, Try.ntmps26
        go_wp2
        go_ret
        exact ⟨rfl, rfl⟩
      · have t1 : (FloatKind.f64.format.order 9223372036854775808 0 == some .eq) = true := by decide +kernel
        have t2 : (FloatKind.f64.format.order 18442240474082181120 0 == some .gt) = false := by decide +kernel
        have hq := quoM
        rw [show Fl.cls 9223372036854775808 = 0 by decide]
        clear h la na
        go_enter Try.func26, Try.ntmps26
        go_wp2
        go_ret
        exact ⟨rfl, rfl⟩
    · have t1 : (FloatKind.f64.format.order a 0 == some .eq) = false := by rw [Fl.t_eq, na, Fl.nan_lit0, Fl.sg_lit0]; simp [h]
      have ec : Fl.cls a = 0 := by
        unfold Fl.cls; rw [na, if_neg (by simp), if_neg]
        intro e; subst e; exact h Fl.sg_lit0
      rw [ec]; clear ec h la na
      go_enter Try.func26, Try.ntmps26
      go_wp2
      go_ret
      exact ⟨rfl, rfl⟩
  · have t0 : (FloatKind.f64.format.order a a != some .eq) = true := by rw [Fl.t_nan, na]
    rw [show Fl.cls a = 2 by unfold Fl.cls; rw [na]; rfl]
    clear na la
    go_enter Try.func26, Try.ntmps26
    go_wp2
    go_ret
    exact ⟨rfl, rfl⟩

end Go.Proofs.Ytelhokjjllikhaa
