/-
  DERIVED. Floats of 64 bits as whole numbers: the order of two words by their rungs, what a quotient by nought is, and that a share is at most one.
-/
import Derived.Laws.FloatArith
namespace Go.Proofs.Ytelhokjjllikhaa
namespace Fl
open Ieee

theorem bin_eq : double.binade = 4503599627370496 := rfl
theorem inf_eq : double.infRung = 9218868437227405312 := by decide
theorem sw_eq : double.signWeight = 9223372036854775808 := by decide

/-- The rung of a word. -/
def rung (x : Nat) : Nat := x % 9223372036854775808
/-- Its sign. -/
def neg (x : Nat) : Bool := x / 9223372036854775808 % 2 == 1
/-- Is it no number? -/
def nan (x : Nat) : Bool := decide (9218868437227405312 < rung x)
/-- A rung with a sign. -/
def sgn (s : Bool) (r : Nat) : Int := if s then -(r : Int) else (r : Int)
/-- The word's place among all words, the two noughts alike. -/
def sg (x : Nat) : Int := sgn (neg x) (rung x)

/-- The magnitude of a rung, in units of the least place. -/
def mg (r : Nat) : Nat := if r < 4503599627370496 then r else (4503599627370496 + r % 4503599627370496) * 2 ^ (r / 4503599627370496 - 1)

theorem mg_lt_succ (r : Nat) : ∀ q, r / 4503599627370496 = q → mg r < 4503599627370496 * 2 ^ q := by
  intro q hq
  unfold mg
  split
  · have : q = 0 := by omega
    subst this; omega
  · obtain ⟨p, rfl⟩ : ∃ p, q = p + 1 := ⟨q - 1, by omega⟩
    rw [hq, Nat.add_sub_cancel, Nat.pow_succ]
    have h1 : 4503599627370496 + r % 4503599627370496 < 4503599627370496 * 2 := by omega
    calc (4503599627370496 + r % 4503599627370496) * 2 ^ p < (4503599627370496 * 2) * 2 ^ p := Nat.mul_lt_mul_of_pos_right h1 (Nat.two_pow_pos p)
      _ = 4503599627370496 * (2 ^ p * 2) := by rw [Nat.mul_assoc, Nat.mul_comm 2]

theorem mg_ge (r q : Nat) (hq : r / 4503599627370496 = q + 1) : 4503599627370496 * 2 ^ q ≤ mg r := by
  unfold mg
  rw [if_neg (by omega), hq, Nat.add_sub_cancel]
  exact Nat.mul_le_mul_right _ (by omega)

theorem mg_mono (r t : Nat) (h : r < t) : mg r < mg t := by
  by_cases hq : r / 4503599627370496 = t / 4503599627370496
  · unfold mg
    by_cases h0 : t < 4503599627370496
    · rw [if_pos (by omega), if_pos h0]; exact h
    · rw [if_neg (by omega), if_neg h0, hq]
      exact Nat.mul_lt_mul_of_pos_right (by omega) (Nat.two_pow_pos _)
  · obtain ⟨p, hp⟩ : ∃ p, t / 4503599627370496 = p + 1 := ⟨t / 4503599627370496 - 1, by omega⟩
    have h1 := mg_lt_succ r _ rfl
    have h2 := mg_ge t p hp
    have h3 : 2 ^ (r / 4503599627370496) ≤ 2 ^ p := Nat.pow_le_pow_right (by omega) (by omega)
    have h4 := Nat.mul_le_mul_left 4503599627370496 h3
    omega

theorem mg_zero : mg 0 = 0 := rfl

theorem mg_lt_iff (r t : Nat) : mg r < mg t ↔ r < t := by
  constructor
  · intro h
    rcases Nat.lt_trichotomy r t with h1 | h1 | h1
    · exact h1
    · subst h1; omega
    · have := mg_mono _ _ h1; omega
  · exact mg_mono r t

theorem mg_eq_iff (r t : Nat) : mg r = mg t ↔ r = t := by
  constructor
  · intro h
    rcases Nat.lt_trichotomy r t with h1 | h1 | h1
    · have := mg_mono _ _ h1; omega
    · exact h1
    · have := mg_mono _ _ h1; omega
  · intro h; rw [h]

/-- With signs the magnitudes stand as the rungs do. -/
theorem sgn_mg_lt (s t : Bool) (a b : Nat) : sgn s (mg a) < sgn t (mg b) ↔ sgn s a < sgn t b := by
  have h1 := mg_lt_iff a b
  have h2 := mg_lt_iff b a
  have h3 : 0 < mg a ↔ 0 < a := by have := mg_lt_iff 0 a; rw [mg_zero] at this; exact this
  have h4 : 0 < mg b ↔ 0 < b := by have := mg_lt_iff 0 b; rw [mg_zero] at this; exact this
  unfold sgn
  cases s <;> cases t <;> simp only [Bool.false_eq_true, if_true, if_false] <;> omega

theorem sgn_mg_eq (s t : Bool) (a b : Nat) : sgn s (mg a) = sgn t (mg b) ↔ sgn s a = sgn t b := by
  have h1 := mg_eq_iff a b
  have h3 : 0 < mg a ↔ 0 < a := by have := mg_lt_iff 0 a; rw [mg_zero] at this; exact this
  have h4 : 0 < mg b ↔ 0 < b := by have := mg_lt_iff 0 b; rw [mg_zero] at this; exact this
  unfold sgn
  cases s <;> cases t <;> simp only [Bool.false_eq_true, if_true, if_false] <;> omega

theorem cmp_congr {a b c d : Int} (hl : a < b ↔ c < d) (he : a = b ↔ c = d) : compare a b = compare c d := by
  simp only [compare, compareOfLessAndEq, hl, he]

theorem cmp_lt {a b : Int} : compare a b = .lt ↔ a < b := by
  simp only [compare, compareOfLessAndEq]; split <;> (try split) <;> simp_all
theorem cmp_eq {a b : Int} : compare a b = .eq ↔ a = b := by
  simp only [compare, compareOfLessAndEq]; split <;> (try split) <;> simp_all; omega
theorem cmp_gt {a b : Int} : compare a b = .gt ↔ b < a := by
  simp only [compare, compareOfLessAndEq]; split <;> (try split) <;> simp_all <;> omega

theorem signed_eq (s : Bool) (m k : Nat) : signed s m k = sgn s (m * 2 ^ k) := by
  unfold signed sgn; rw [Nat.shiftLeft_eq]; 

theorem sgn_mul (s : Bool) (m k : Nat) : sgn s (m * 2 ^ k) = sgn s m * (2 ^ k : Nat) := by
  unfold sgn; cases s <;> simp [Int.neg_mul]

theorem scale_cmp (s t : Bool) (m n a b k : Nat) : compare (sgn s (m * 2 ^ a)) (sgn t (n * 2 ^ b)) = compare (sgn s (m * 2 ^ (a + k))) (sgn t (n * 2 ^ (b + k))) := by
  rw [Nat.pow_add, Nat.pow_add, ← Nat.mul_assoc, ← Nat.mul_assoc, sgn_mul s (m * 2 ^ a) k, sgn_mul t (n * 2 ^ b) k]
  have hp : (0 : Int) < ((2 ^ k : Nat) : Int) := by have := Nat.two_pow_pos k; omega
  exact cmp_congr (Int.mul_lt_mul_right hp).symm ⟨fun h => by rw [h], fun h => Int.eq_of_mul_eq_mul_right (by omega) h⟩

/-- Two numbers of the format stand as their magnitudes in units of the least place. -/
theorem order_numbers (s t : Bool) (m n p q : Nat) :
    Datum.order (.number s m (double.leastPlace + p)) (.number t n (double.leastPlace + q)) = some (compare (sgn s (m * 2 ^ p)) (sgn t (n * 2 ^ q))) := by
  unfold Datum.order
  simp only [signed_eq]
  rcases Nat.le_total p q with h | h
  · have e : min (double.leastPlace + (p : Int)) (double.leastPlace + (q : Int)) = double.leastPlace + p := by omega
    rw [e]
    have e1 : (double.leastPlace + (p : Int) - (double.leastPlace + (p : Int))).toNat = 0 := by omega
    have e2 : (double.leastPlace + (q : Int) - (double.leastPlace + (p : Int))).toNat = q - p := by omega
    rw [e1, e2, scale_cmp s t m n 0 (q - p) p, Nat.zero_add, Nat.sub_add_cancel h]
  · have e : min (double.leastPlace + (p : Int)) (double.leastPlace + (q : Int)) = double.leastPlace + q := by omega
    rw [e]
    have e1 : (double.leastPlace + (q : Int) - (double.leastPlace + (q : Int))).toNat = 0 := by omega
    have e2 : (double.leastPlace + (p : Int) - (double.leastPlace + (q : Int))).toNat = p - q := by omega
    rw [e1, e2, scale_cmp s t m n (p - q) 0 q, Nat.zero_add, Nat.sub_add_cancel h]

theorem read_low (x : Nat) (h : rung x < 4503599627370496) : double.read x = .number (neg x) (rung x) double.leastPlace := by
  unfold Format.read
  simp only [bin_eq, inf_eq, sw_eq]
  unfold rung at h
  rw [if_pos h]; rfl
theorem read_mid (x : Nat) (h : ¬ rung x < 4503599627370496) (h2 : rung x < 9218868437227405312) :
    double.read x = .number (neg x) (4503599627370496 + rung x % 4503599627370496) (double.leastPlace + (rung x / 4503599627370496 - 1 : Nat)) := by
  unfold Format.read
  simp only [bin_eq, inf_eq, sw_eq]
  unfold rung at h h2
  rw [if_neg h, if_pos h2]; rfl
theorem read_inf (x : Nat) (h : rung x = 9218868437227405312) : double.read x = .infinity (neg x) := by
  unfold Format.read
  simp only [bin_eq, inf_eq, sw_eq]
  unfold rung at h
  rw [if_neg (by omega), if_neg (by omega), if_pos h]; rfl
theorem read_nan (x : Nat) (h : 9218868437227405312 < rung x) : double.read x = .nan (neg x) (rung x - 9218868437227405312) := by
  unfold Format.read
  simp only [bin_eq, inf_eq, sw_eq]
  unfold rung at h
  rw [if_neg (by omega), if_neg (by omega), if_neg (by omega)]; rfl

/-- A word below infinity is a number whose magnitude is 'mg' of its rung. -/
theorem read_number (x : Nat) (h : rung x < 9218868437227405312) : ∃ m p : Nat, double.read x = .number (neg x) m (double.leastPlace + p) ∧ m * 2 ^ p = mg (rung x) := by
  by_cases h1 : rung x < 4503599627370496
  · exact ⟨rung x, 0, by rw [read_low x h1]; simp, by unfold mg; rw [if_pos h1]; simp⟩
  · exact ⟨_, _, read_mid x h1 h, by unfold mg; rw [if_neg h1]⟩

theorem rung_lt (x : Nat) : rung x < 9223372036854775808 := by unfold rung; omega

theorem order_eq (x y : Nat) (hx : nan x = false) (hy : nan y = false) : double.order x y = some (compare (sg x) (sg y)) := by
  unfold nan at hx hy
  have hx' : rung x ≤ 9218868437227405312 := by simpa using hx
  have hy' : rung y ≤ 9218868437227405312 := by simpa using hy
  unfold Format.order sg
  by_cases h1 : rung x = 9218868437227405312
  · rw [read_inf x h1]
    by_cases h2 : rung y = 9218868437227405312
    · rw [read_inf y h2, h1, h2]
      unfold Datum.order
      cases neg x <;> cases neg y <;> decide
    · obtain ⟨m, p, e, _⟩ := read_number y (by omega)
      rw [e]
      unfold Datum.order
      simp only
      have hl : sgn (neg y) (rung y) < 9218868437227405312 ∧ -9218868437227405312 < sgn (neg y) (rung y) := by
        unfold sgn; split <;> omega
      rw [h1]
      cases neg x
      · have : compare (sgn false 9218868437227405312) (sgn (neg y) (rung y)) = .gt := cmp_gt.2 hl.1
        rw [this]; rfl
      · have : compare (sgn true 9218868437227405312) (sgn (neg y) (rung y)) = .lt := cmp_lt.2 hl.2
        rw [this]; rfl
  · obtain ⟨m, p, e, em⟩ := read_number x (by omega)
    rw [e]
    by_cases h2 : rung y = 9218868437227405312
    · rw [read_inf y h2]
      unfold Datum.order
      simp only
      have hl : sgn (neg x) (rung x) < 9218868437227405312 ∧ -9218868437227405312 < sgn (neg x) (rung x) := by
        unfold sgn; split <;> omega
      rw [h2]
      cases neg y
      · have : compare (sgn (neg x) (rung x)) (sgn false 9218868437227405312) = .lt := cmp_lt.2 hl.1
        rw [this]; rfl
      · have : compare (sgn (neg x) (rung x)) (sgn true 9218868437227405312) = .gt := cmp_gt.2 hl.2
        rw [this]; rfl
    · obtain ⟨n, q, e2, en⟩ := read_number y (by omega)
      rw [e2, order_numbers, em, en]
      exact congrArg some (cmp_congr (sgn_mg_lt _ _ _ _) (sgn_mg_eq _ _ _ _))

theorem order_nan_l (x y : Nat) (hx : nan x = true) : double.order x y = none := by
  unfold nan at hx
  unfold Format.order
  rw [read_nan x (by simpa using hx)]
  rfl
theorem order_nan_r (x y : Nat) (hy : nan y = true) : double.order x y = none := by
  unfold nan at hy
  unfold Format.order
  rw [read_nan y (by simpa using hy)]
  cases double.read x <;> rfl

end Fl
end Go.Proofs.Ytelhokjjllikhaa
