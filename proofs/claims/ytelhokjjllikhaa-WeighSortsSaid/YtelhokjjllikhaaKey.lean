/-
  DERIVED. One whole number for each float, which stands as the document's order does; tests of floats in its words; quotients by nought.
-/
import Derived.Test.YtelhokjjllikhaaFl
namespace Go.Proofs.Ytelhokjjllikhaa
namespace Fl
open Ieee

/-- The place of a word in the order of all floats. -/
def key (x : Nat) : Int := if nan x then 9223372036854775808 else if neg x then -(rung x : Int) - 1 else (rung x : Int)

theorem t_lt (a b : Nat) : (FloatKind.f64.format.order a b == some .lt) = (!nan a && !nan b && decide (sg a < sg b)) := by
  show (double.order a b == some .lt) = _
  cases ha : nan a
  · cases hb : nan b
    · rw [order_eq a b ha hb, Bool.eq_iff_iff]
      have := @cmp_lt (sg a) (sg b)
      simp [this]
    · rw [order_nan_r a b hb]; rfl
  · rw [order_nan_l a b ha]; rfl
theorem t_gt (a b : Nat) : (FloatKind.f64.format.order a b == some .gt) = (!nan a && !nan b && decide (sg b < sg a)) := by
  show (double.order a b == some .gt) = _
  cases ha : nan a
  · cases hb : nan b
    · rw [order_eq a b ha hb, Bool.eq_iff_iff]
      have := @cmp_gt (sg a) (sg b)
      simp [this]
    · rw [order_nan_r a b hb]; rfl
  · rw [order_nan_l a b ha]; rfl
theorem t_eq (a b : Nat) : (FloatKind.f64.format.order a b == some .eq) = (!nan a && !nan b && decide (sg a = sg b)) := by
  show (double.order a b == some .eq) = _
  cases ha : nan a
  · cases hb : nan b
    · rw [order_eq a b ha hb, Bool.eq_iff_iff]
      have := @cmp_eq (sg a) (sg b)
      simp [this]
    · rw [order_nan_r a b hb]; rfl
  · rw [order_nan_l a b ha]; rfl
theorem t_ne (a b : Nat) : (FloatKind.f64.format.order a b != some .eq) = !(!nan a && !nan b && decide (sg a = sg b)) := by
  show (!(FloatKind.f64.format.order a b == some .eq)) = _
  rw [t_eq]
theorem t_nan (a : Nat) : (FloatKind.f64.format.order a a != some .eq) = nan a := by
  rw [t_ne]; cases nan a <;> simp

/-- Is the first ahead of the second? -/
def less (a b : Nat) : Bool := decide (key a < key b)
/-- Are they one? -/
def same (a b : Nat) : Bool := decide (key a = key b)

theorem rung_le (a : Nat) (h : nan a = false) : rung a ≤ 9218868437227405312 := by unfold nan at h; simpa using h

theorem less_nan_l (a b : Nat) (ha : nan a = true) : less a b = false := by
  unfold less key; rw [ha]; simp only [if_true, decide_eq_false_iff_not]
  split
  · omega
  · rename_i hb
    have := rung_le b (by simpa using hb)
    split <;> omega
theorem less_nan_r (a b : Nat) (ha : nan a = false) (hb : nan b = true) : less a b = true := by
  unfold less key; rw [ha, hb]; simp only [if_true, Bool.false_eq_true, if_false, decide_eq_true_eq]
  have := rung_le a ha
  split <;> omega
theorem less_sg_eq (a b : Nat) (ha : nan a = false) (hb : nan b = false) (h : sg a = sg b) : less a b = (neg a && !neg b) := by
  unfold less key; rw [ha, hb]; simp only [Bool.false_eq_true, if_false]
  unfold sg sgn at h
  cases na : neg a <;> cases nb : neg b <;> rw [na, nb] at h <;> simp at h ⊢ <;> omega
theorem less_sg_ne (a b : Nat) (ha : nan a = false) (hb : nan b = false) (h : ¬ sg a = sg b) : less a b = decide (sg a < sg b) := by
  unfold less key; rw [ha, hb]; simp only [Bool.false_eq_true, if_false]
  unfold sg sgn at h ⊢
  cases na : neg a <;> cases nb : neg b <;> rw [na, nb] at h <;> simp at h ⊢ <;> omega

theorem same_nan (a b : Nat) (ha : nan a = true) (hb : nan b = true) : same a b = true := by
  unfold same key; rw [ha, hb]; simp
theorem same_nan_l (a b : Nat) (ha : nan a = true) (hb : nan b = false) : same a b = false := by
  unfold same key; rw [ha, hb]; simp only [if_true, Bool.false_eq_true, if_false, decide_eq_false_iff_not]
  have := rung_le b hb
  split <;> omega
theorem same_nan_r (a b : Nat) (ha : nan a = false) (hb : nan b = true) : same a b = false := by
  unfold same key; rw [ha, hb]; simp only [if_true, Bool.false_eq_true, if_false, decide_eq_false_iff_not]
  have := rung_le a ha
  split <;> omega
theorem same_sg_ne (a b : Nat) (ha : nan a = false) (hb : nan b = false) (h : ¬ sg a = sg b) : same a b = false := by
  unfold same key; rw [ha, hb]; simp only [Bool.false_eq_true, if_false]
  unfold sg sgn at h
  cases na : neg a <;> cases nb : neg b <;> rw [na, nb] at h <;> simp at h ⊢ <;> omega
theorem same_sg_eq (a b : Nat) (ha : nan a = false) (hb : nan b = false) (h : sg a = sg b) (h0 : ¬ sg a = 0) : same a b = true := by
  unfold same key; rw [ha, hb]; simp only [Bool.false_eq_true, if_false]
  unfold sg sgn at h h0
  cases na : neg a <;> cases nb : neg b <;> rw [na, nb] at h <;> rw [na] at h0 <;> simp at h h0 ⊢ <;> omega

/-- Nought has two words. -/
theorem sg_zero (a : Nat) (h : sg a = 0) (ha : a < 18446744073709551616) : a = 0 ∨ a = 9223372036854775808 := by
  unfold sg sgn rung at h
  split at h <;> omega
theorem sg_lit0 : sg 0 = 0 := by decide
theorem nan_lit0 : nan 0 = false := by decide
theorem sg_lit1 : sg 4607182418800017408 = 4607182418800017408 := by decide
theorem nan_lit1 : nan 4607182418800017408 = false := by decide
theorem quo_pos : floatBits .quo .f64 4607182418800017408 0 = some 9218868437227405312 := by decide +kernel
theorem quo_neg : floatBits .quo .f64 4607182418800017408 9223372036854775808 = some 18442240474082181120 := by decide +kernel

end Fl
end Go.Proofs.Ytelhokjjllikhaa
