/-
  DERIVED. A quotient of two floats of which the first is the lesser, both above nought: it is a float, and at most one.
-/
import Derived.Test.YtelhokjjllikhaaKey
namespace Go.Proofs.Ytelhokjjllikhaa
namespace Fl
open Ieee

theorem least_eq : double.leastPlace = -1074 := by decide
theorem frac_eq : double.fractionBits = 52 := rfl

theorem cut_zero (neg : Bool) (n : Nat) : Toward.even.cut neg n 0 = n := by
  unfold Toward.cut
  simp [Nat.mod_one]

theorem cut_le (neg : Bool) (n drop : Nat) (h : n.log2 + 1 ≤ 53 + drop) : Toward.even.cut neg n drop ≤ 9007199254740992 := by
  unfold Toward.cut
  simp only [Nat.shiftLeft_eq, Nat.one_mul]
  have h1 : n < 2 ^ (n.log2 + 1) := Nat.lt_log2_self
  have h2 : n / 2 ^ min drop (n.log2 + 2) < 9007199254740992 := by
    refine Nat.div_lt_of_lt_mul (Nat.lt_of_lt_of_le h1 ?_)
    rw [show (9007199254740992 : Nat) = 2 ^ 53 from rfl, ← Nat.pow_add]
    exact Nat.pow_le_pow_right (by omega) (by omega)
  have h3 : ∀ b : Bool, b.toNat ≤ 1 := by intro b; cases b <;> decide
  have h4 := h3 (decide (2 ^ min drop (n.log2 + 2) < 2 * (n % 2 ^ min drop (n.log2 + 2))) || (2 ^ min drop (n.log2 + 2) == 2 * (n % 2 ^ min drop (n.log2 + 2)) && n / 2 ^ min drop (n.log2 + 2) % 2 == 1))
  omega

theorem nearest_le (mag K : Nat) (h : mag < 2 ^ K) : double.nearest false mag (-(K : Int)) ≤ 4607182418800017408 := by
  unfold Format.nearest
  by_cases h0 : mag = 0
  · rw [if_pos h0]; decide
  · rw [if_neg h0]
    have hl : mag.log2 < K := (Nat.log2_lt h0).2 h
    have hs : mag < 2 ^ (mag.log2 + 1) := Nat.lt_log2_self
    simp only [least_eq, frac_eq, bin_eq, inf_eq]
    generalize hlast : max (-(K : Int) + (mag.log2 : Int) - 52) (-1074) = last
    have hlast1 : last ≤ -53 := by omega
    have hlast2 : -1074 ≤ last := by omega
    have hk : Toward.even.cut false (mag <<< (-(K : Int) - last).toNat) (last - -(K : Int)).toNat ≤ 9007199254740992 := by
      by_cases hp : last ≤ -(K : Int)
      · have e : (last - -(K : Int)).toNat = 0 := by omega
        rw [e, cut_zero, Nat.shiftLeft_eq]
        refine Nat.le_of_lt (Nat.lt_of_lt_of_le ((Nat.mul_lt_mul_right (Nat.two_pow_pos _)).2 hs) ?_)
        rw [← Nat.pow_add, show (9007199254740992 : Nat) = 2 ^ 53 from rfl]
        exact Nat.pow_le_pow_right (by omega) (by omega)
      · have e : (-(K : Int) - last).toNat = 0 := by omega
        rw [e, Nat.shiftLeft_zero]
        exact cut_le _ _ _ (by omega)
    unfold Format.word
    simp only [Bool.false_eq_true, if_false]
    have h5 : (last - -1074).toNat ≤ 1021 := by omega
    revert hk h5
    generalize (last - -1074).toNat = x
    generalize Toward.even.cut false (mag <<< (-(K : Int) - last).toNat) (last - -(K : Int)).toNat = y
    intro hk h5
    omega

theorem quotient_le (m n a b : Nat) (hm : 0 < m) (h : m * 2 ^ a < n * 2 ^ b) :
    ∃ r, ((Datum.number false m (double.leastPlace + a)).quotient 54 (.number false n (double.leastPlace + b))).map double.write = some r ∧ r ≤ 4607182418800017408 := by
  have hn : ¬ n = 0 := by intro e; subst e; omega
  unfold Datum.quotient
  simp only [hn, if_false, Option.map_some, Nat.shiftLeft_eq]
  refine ⟨_, rfl, ?_⟩
  have hm0 : 2 ^ m.log2 ≤ m := Nat.log2_self_le (by omega)
  have hn0 : n < 2 ^ (n.log2 + 1) := Nat.lt_log2_self
  have hab : m.log2 + a < n.log2 + 1 + b := by
    have h1 : 2 ^ (m.log2 + a) < 2 ^ (n.log2 + 1 + b) := by
      rw [Nat.pow_add, Nat.pow_add _ (n.log2 + 1)]
      calc 2 ^ m.log2 * 2 ^ a ≤ m * 2 ^ a := Nat.mul_le_mul_right _ hm0
        _ < n * 2 ^ b := h
        _ ≤ 2 ^ (n.log2 + 1) * 2 ^ b := Nat.mul_le_mul_right _ (Nat.le_of_lt hn0)
    exact (Nat.pow_lt_pow_iff_right (by omega)).1 h1
  generalize hmore : 54 + n.log2 - m.log2 = more
  obtain ⟨K, hK⟩ : ∃ K, K + a = b + more := ⟨b + more - a, by omega⟩
  have hD : m * 2 ^ more < n * 2 ^ K := by
    have h1 : m * 2 ^ more * 2 ^ a < n * 2 ^ K * 2 ^ a := by
      rw [Nat.mul_assoc n, ← Nat.pow_add, hK, Nat.pow_add, ← Nat.mul_assoc, Nat.mul_right_comm]
      exact Nat.mul_lt_mul_of_pos_right h (Nat.two_pow_pos _)
    exact Nat.lt_of_mul_lt_mul_right h1
  have hq : m * 2 ^ more / n < 2 ^ K := Nat.div_lt_of_lt_mul hD
  have hb : ∀ x : Bool, x.toNat ≤ 1 := by intro x; cases x <;> decide
  have hb1 := hb (m * 2 ^ more % n != 0)
  have hmag : 2 * (m * 2 ^ more / n) + (m * 2 ^ more % n != 0).toNat < 2 ^ (K + 1) := by rw [Nat.pow_succ]; omega
  have hpl : double.leastPlace + (a : Int) - (double.leastPlace + (b : Int)) - (more : Int) - 1 = -((K + 1 : Nat) : Int) := by omega
  show double.nearest (false ^^ false) _ _ ≤ _
  rw [hpl]
  exact nearest_le _ _ hmag

/-- A part that is less than its whole, both above nought. -/
theorem div_le (p q : Nat) (hq : nan q = false) (h0 : 0 < sg p) (h : sg p < sg q) :
    ∃ r, floatBits .quo .f64 p q = some r ∧ r ≤ 4607182418800017408 := by
  have rq := rung_le q hq
  have np : neg p = false := by
    cases e : neg p
    · rfl
    · unfold sg sgn at h0; rw [e] at h0; simp at h0
      omega
  have nq : neg q = false := by
    cases e : neg q
    · rfl
    · unfold sg sgn at h h0; rw [e, np] at h; rw [np] at h0; simp at h h0
      omega
  unfold sg sgn at h h0
  rw [np, nq] at h; rw [np] at h0
  simp only [Bool.false_eq_true, if_false] at h h0
  obtain ⟨m, a, em, hm⟩ := read_number p (by omega)
  rw [np] at em
  show ∃ r, double.div p q = some r ∧ _
  unfold Format.div
  rw [em]
  have hpos : 0 < mg (rung p) := by have := mg_mono 0 (rung p) (by omega); rw [mg_zero] at this; exact this
  have hm0 : 0 < m := by
    rcases Nat.eq_zero_or_pos m with e | e
    · subst e; rw [Nat.zero_mul] at hm; omega
    · exact e
  by_cases hi : rung q = 9218868437227405312
  · rw [read_inf q hi, nq]
    refine ⟨_, rfl, ?_⟩
    decide
  · obtain ⟨n, b, en, hn⟩ := read_number q (by omega)
    rw [nq] at en
    rw [en]
    refine quotient_le m n a b hm0 ?_
    rw [hm, hn]
    exact mg_mono _ _ (by omega)

/-- A word between nought and one. -/
theorem unit_word (r : Nat) (h : r ≤ 4607182418800017408) : nan r = false ∧ sg r = r := by
  have e : rung r = r := by unfold rung; omega
  have n : neg r = false := by unfold neg; rw [Nat.div_eq_of_lt (by omega)]; rfl
  unfold nan sg sgn
  rw [e, n]
  exact ⟨by simp; omega, rfl⟩

end Fl
end Go.Proofs.Ytelhokjjllikhaa
