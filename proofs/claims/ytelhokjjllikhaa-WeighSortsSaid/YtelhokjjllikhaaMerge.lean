/-
  DERIVED. Plain mathematics of a merge in place by rotations: ranges that are swapped, a rotation, two runs that are parted about the middle.
-/
import Derived.Sort.LotA
import Derived.Test.YtelhokjjllikhaaKey
namespace Go.Proofs.Ytelhokjjllikhaa
namespace Fl
open Go.Sort

theorem less_swo : SWO less :=
  ⟨fun x => by unfold less; simp, fun x y z h g => by unfold less at *; simp only [decide_eq_true_eq] at *; omega,
    fun x y z h g => by unfold less at *; simp only [decide_eq_false_iff_not] at *; omega⟩

/-- Rising from a up to b. -/
def Srt (a b : Nat) (d : Array Nat) : Prop := ∀ i j, a ≤ i → i < j → j < b → key d[i]! ≤ key d[j]!

theorem srt_of (a b : Nat) (d : Array Nat) (h : SortedIn less a b d) : Srt a b d := fun i j h1 h2 h3 => by
  have := h i j h1 h2 h3
  unfold less at this; simp only [decide_eq_false_iff_not] at this; omega

theorem Srt.le {a b : Nat} {d : Array Nat} (h : Srt a b d) (i j : Nat) (h1 : a ≤ i) (h2 : i ≤ j) (h3 : j < b) : key d[i]! ≤ key d[j]! := by
  by_cases e : i = j
  · subst e; omega
  · exact h i j h1 (by omega) h3

/-- n places from a on swapped with n places from b on. -/
def swapR (d : Array Nat) (a b : Nat) : Nat → Array Nat
  | 0 => d
  | n + 1 => swp (swapR d a b n) (a + n) (b + n)

theorem size_swapR (d : Array Nat) (a b n : Nat) : (swapR d a b n).size = d.size := by
  induction n with
  | zero => rfl
  | succ n ih => rw [swapR, size_swp, ih]

theorem swapR_perm (d : Array Nat) (a b n lo hi : Nat) (h1 : lo ≤ a) (h2 : lo ≤ b) (h3 : a + n ≤ hi) (h4 : b + n ≤ hi) (h5 : hi ≤ d.size) : PermIn lo hi d (swapR d a b n) := by
  induction n with
  | zero => exact permIn_refl _ _ _
  | succ n ih =>
    exact permIn_trans _ _ _ _ _ (ih (by omega) (by omega)) (swp_permIn _ _ _ _ _ (by omega) (by omega) (by omega) (by omega) (by rw [size_swapR]; exact h5))

theorem swapR_other (d : Array Nat) (a b n k : Nat) (h1 : ¬ (a ≤ k ∧ k < a + n)) (h2 : ¬ (b ≤ k ∧ k < b + n)) : (swapR d a b n)[k]! = d[k]! := by
  induction n with
  | zero => rfl
  | succ n ih => rw [swapR, swp_other _ _ _ _ (by omega) (by omega)]; exact ih (by omega) (by omega)

theorem swapR_get (d : Array Nat) (a b n : Nat) (hab : a + n ≤ b) (hb : b + n ≤ d.size) (k : Nat) :
    (swapR d a b n)[k]! = if a ≤ k ∧ k < a + n then d[k - a + b]! else if b ≤ k ∧ k < b + n then d[k - b + a]! else d[k]! := by
  induction n with
  | zero => rw [swapR, if_neg (by omega), if_neg (by omega)]
  | succ n ih =>
    have ih' := ih (by omega) (by omega)
    rw [swapR]
    have ea : (swapR d a b n)[a + n]! = d[a + n]! := swapR_other d a b n (a + n) (by omega) (by omega)
    have eb : (swapR d a b n)[b + n]! = d[b + n]! := swapR_other d a b n (b + n) (by omega) (by omega)
    by_cases h1 : k = a + n
    · subst h1
      rw [swp_left _ _ _ (by rw [size_swapR]; omega) (by omega), eb, if_pos ⟨by omega, by omega⟩]
      congr 1; omega
    · by_cases h2 : k = b + n
      · subst h2
        rw [swp_right _ _ _ (by rw [size_swapR]; omega), ea, if_neg (by omega), if_pos ⟨by omega, by omega⟩]
        congr 1; omega
      · rw [swp_other _ _ _ _ h1 h2, ih']
        by_cases h3 : a ≤ k ∧ k < a + n
        · rw [if_pos h3, if_pos ⟨h3.1, by omega⟩]
        · rw [if_neg h3]
          by_cases h4 : b ≤ k ∧ k < b + n
          · rw [if_pos h4, if_neg (by omega), if_pos ⟨h4.1, by omega⟩]
          · rw [if_neg h4, if_neg (by omega), if_neg (by omega)]
/-- T is c with the run from l up to m and the run from m up to r in the other order. -/
def RotF (l m r : Nat) (c : Array Nat) (T : Nat → Nat) : Prop :=
  ∀ k, T k = if l ≤ k ∧ k < l + (r - m) then c[k - l + m]! else if l + (r - m) ≤ k ∧ k < r then c[k - (r - m)]! else c[k]!

theorem rot_left (m i j : Nat) (c : Array Nat) (T : Nat → Nat) (hi : i ≤ m) (hj : 0 < j) (hji : j < i) (hs : m + j ≤ c.size) (h : RotF (m - i) m (m + j) c T) :
    RotF (m - (i - j)) m (m + j) (swapR c (m - i) m j) T := by
  intro k
  rw [h k]
  have g := fun k => swapR_get c (m - i) m j (by omega) (by omega) k
  by_cases h1 : m - i ≤ k ∧ k < m - i + (m + j - m)
  · rw [if_pos h1, if_neg (by omega), if_neg (by omega), g k, if_pos ⟨by omega, by omega⟩]
  · rw [if_neg h1]
    by_cases h2 : m - i + (m + j - m) ≤ k ∧ k < m + j
    · rw [if_pos h2]
      by_cases h3 : m - (i - j) ≤ k ∧ k < m - (i - j) + (m + j - m)
      · rw [if_pos h3, g, if_neg (by omega), if_pos ⟨by omega, by omega⟩]
        congr 1; omega
      · rw [if_neg h3, if_pos ⟨by omega, by omega⟩, g, if_neg (by omega), if_neg (by omega)]
    · rw [if_neg h2, if_neg (by omega), if_neg (by omega), g, if_neg (by omega), if_neg (by omega)]

theorem rot_right (m i j : Nat) (c : Array Nat) (T : Nat → Nat) (hi : i ≤ m) (h0 : 0 < i) (hij : i < j) (hs : m + j ≤ c.size) (h : RotF (m - i) m (m + j) c T) :
    RotF (m - i) m (m + (j - i)) (swapR c (m - i) (m + j - i) i) T := by
  intro k
  rw [h k]
  have g := fun k => swapR_get c (m - i) (m + j - i) i (by omega) (by omega) k
  by_cases h1 : m - i ≤ k ∧ k < m - i + (m + j - m)
  · rw [if_pos h1]
    by_cases h2 : m - i ≤ k ∧ k < m - i + (m + (j - i) - m)
    · rw [if_pos h2, g, if_neg (by omega), if_neg (by omega)]
    · rw [if_neg h2]
      by_cases h3 : m - i + (m + (j - i) - m) ≤ k ∧ k < m + (j - i)
      · rw [if_pos h3, g, if_pos ⟨by omega, by omega⟩]
        congr 1; omega
      · omega
  · rw [if_neg h1]
    by_cases h2 : m - i + (m + j - m) ≤ k ∧ k < m + j
    · rw [if_pos h2, if_neg (by omega), if_neg (by omega), g, if_neg (by omega), if_pos ⟨by omega, by omega⟩]
      congr 1; omega
    · rw [if_neg h2, if_neg (by omega), if_neg (by omega), g, if_neg (by omega), if_neg (by omega)]

theorem rot_end (m i : Nat) (c : Array Nat) (T : Nat → Nat) (hi : i ≤ m) (hs : m + i ≤ c.size) (h : RotF (m - i) m (m + i) c T) (k : Nat) :
    (swapR c (m - i) m i)[k]! = T k := by
  rw [h k, swapR_get c (m - i) m i (by omega) (by omega) k]
  by_cases h1 : m - i ≤ k ∧ k < m - i + i
  · rw [if_pos h1, if_pos ⟨by omega, by omega⟩]
  · rw [if_neg h1]
    by_cases h2 : m ≤ k ∧ k < m + i
    · rw [if_pos h2, if_neg (by omega), if_pos ⟨by omega, by omega⟩]; congr 1; omega
    · rw [if_neg h2, if_neg (by omega), if_neg (by omega)]

theorem rot_same (l m r : Nat) (c : Array Nat) (h : l = m ∨ r = m) : RotF l m r c (fun k => c[k]!) := by
  intro k
  show c[k]! = _
  by_cases h1 : l ≤ k ∧ k < l + (r - m)
  · rw [if_pos h1]; congr 1; omega
  · rw [if_neg h1]
    by_cases h2 : l + (r - m) ≤ k ∧ k < r
    · rw [if_pos h2]; congr 1; omega
    · rw [if_neg h2]

/-- What two runs are behind the rotation about the middle. -/
structure Parted (a s mid e b : Nat) (d : Array Nat) : Prop where
  s1 : Srt a s d
  s2 : Srt s mid d
  s3 : Srt mid e d
  s4 : Srt e b d
  cross : ∀ i j, a ≤ i → i < mid → mid ≤ j → j < b → key d[i]! ≤ key d[j]!

theorem parted (a m b mid s e s0 r0 p : Nat) (d d1 : Array Nat) (h1 : Srt a m d) (h2 : Srt m b d) (ham : a < m) (hmb : m < b) (hmid : mid = (a + b) / 2)
    (hs0 : m > mid ∧ s0 = mid + m - b ∧ r0 = mid ∨ m ≤ mid ∧ s0 = a ∧ r0 = m) (hs : s0 ≤ s) (hr : s ≤ r0) (he : e = mid + m - s) (hp : p = mid + m - 1)
    (hlo : ∀ c, s0 ≤ c → c < s → key d[c]! ≤ key d[p - c]!) (hhi : ∀ c, s ≤ c → c < r0 → key d[p - c]! ≤ key d[c]!)
    (hR : RotF s m e d (fun k => d1[k]!)) : Parted a s mid e b d1 := by
  have g : ∀ k, d1[k]! = if s ≤ k ∧ k < s + (e - m) then d[k - s + m]! else if s + (e - m) ≤ k ∧ k < e then d[k - (e - m)]! else d[k]! := hR
  have hsm : s + (e - m) = mid := by omega
  have g1 : ∀ k, k < s → d1[k]! = d[k]! := fun k hk => by rw [g k, if_neg (by omega), if_neg (by omega)]
  have g2 : ∀ k, s ≤ k → k < mid → d1[k]! = d[k - s + m]! := fun k h h' => by rw [g k, if_pos ⟨h, by omega⟩]
  have g3 : ∀ k, mid ≤ k → k < e → d1[k]! = d[k - (e - m)]! := fun k h h' => by rw [g k, if_neg (by omega), if_pos ⟨by omega, h'⟩]
  have g4 : ∀ k, e ≤ k → d1[k]! = d[k]! := fun k h => by rw [g k, if_neg (by omega), if_neg (by omega)]
  clear g hR
  refine ⟨fun i j hi hij hj => ?_, fun i j hi hij hj => ?_, fun i j hi hij hj => ?_, fun i j hi hij hj => ?_, fun i j hi hi2 hj hj2 => ?_⟩
  · rw [g1 i (by omega), g1 j hj]; exact h1 i j hi hij (by omega)
  · rw [g2 i hi (by omega), g2 j (by omega) hj]; exact h2 _ _ (by omega) (by omega) (by omega)
  · rw [g3 i hi (by omega), g3 j (by omega) hj]; exact h1 _ _ (by omega) (by omega) (by omega)
  · rw [g4 i hi, g4 j (by omega)]; exact h2 _ _ (by omega) hij hj
  · by_cases a1 : i < s
    · rw [g1 i a1]
      by_cases a2 : j < e
      · rw [g3 j hj a2]; exact h1.le _ _ hi (by omega) (by omega)
      · rw [g4 j (by omega)]
        have k1 := hlo (s - 1) (by omega) (by omega)
        have k2 := h1.le i (s - 1) hi (by omega) (by omega)
        have k3 := h2.le (p - (s - 1)) j (by omega) (by omega) hj2
        omega
    · rw [g2 i (by omega) hi2]
      by_cases a2 : j < e
      · rw [g3 j hj a2]
        have k1 := hhi s (Nat.le_refl _) (by omega)
        have k2 := h2.le (i - s + m) (p - s) (by omega) (by omega) (by omega)
        have k3 := h1.le s (j - (e - m)) (by omega) (by omega) (by omega)
        omega
      · rw [g4 j (by omega)]; exact h2.le _ _ (by omega) (by omega) hj2

/-- Two halves, each sorted anew, of which no one of the first is above one of the second. -/
theorem joined (a mid b : Nat) (d1 d2 d3 : Array Nat) (ham : a ≤ mid) (hmb : mid ≤ b) (hb : b ≤ d1.size) (hc : ∀ i j, a ≤ i → i < mid → mid ≤ j → j < b → key d1[i]! ≤ key d1[j]!)
    (p2 : PermIn a mid d1 d2) (s2 : Srt a mid d2) (p3 : PermIn mid b d2 d3) (s3 : Srt mid b d3) : PermIn a b d1 d3 ∧ Srt a b d3 := by
  refine ⟨permIn_trans _ _ _ _ _ (permIn_mono d1 d2 a mid a b (Nat.le_refl _) hmb hb p2) (permIn_mono d2 d3 mid b a b ham (Nat.le_refl _) (by rw [p2.1]; exact hb) p3), fun i j hi hij hj => ?_⟩
  by_cases h1 : j < mid
  · rw [p3.2.1 i (Or.inl (by omega)), p3.2.1 j (Or.inl h1)]; exact s2 i j hi hij h1
  · by_cases h2 : mid ≤ i
    · exact s3 i j h2 hij hj
    · rw [p3.2.1 i (Or.inl (by omega))]
      have q1 := permIn_all d1 d2 a mid (fun x => ∀ j, mid ≤ j → j < b → key x ≤ key d1[j]!) (by omega) p2 (fun i h h' j g g' => hc i j h h' g g') i hi (by omega)
      have q2 := permIn_all d2 d3 mid b (fun x => key d2[i]! ≤ key x) (by rw [p2.1]; exact hb) p3 (fun j h h' => by rw [p2.2.1 j (Or.inr h)]; exact q1 j h h') j (by omega) hj
      exact q2

end Fl
end Go.Proofs.Ytelhokjjllikhaa
