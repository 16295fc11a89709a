/-
  DERIVED. Plain mathematics of one element that is carried to its place in a run.
-/
import Derived.Test.YtelhokjjllikhaaMerge
namespace Go.Proofs.Ytelhokjjllikhaa
namespace Fl
open Go.Sort

/-- The element at a has been carried up to k. -/
def Up (a k : Nat) (d c : Array Nat) : Prop := ∀ t, c[t]! = if a ≤ t ∧ t < k then d[t + 1]! else if t = k then d[a]! else d[t]!
theorem up_start (a : Nat) (d : Array Nat) : Up a a d d := fun t => by
  rw [if_neg (by omega)]; split
  · rename_i h; subst h; rfl
  · rfl
theorem up_step (a k : Nat) (d c : Array Nat) (ha : a ≤ k) (hk : k + 1 < c.size) (h : Up a k d c) : Up a (k + 1) d (swp c k (k + 1)) := fun t => by
  by_cases h1 : t = k
  · subst h1
    rw [swp_left _ _ _ (by omega) (by omega), h (t + 1), if_neg (by omega), if_neg (by omega), if_pos ⟨ha, by omega⟩]
  · by_cases h2 : t = k + 1
    · subst h2
      rw [swp_right _ _ _ hk, h k, if_neg (by omega), if_pos rfl, if_neg (by omega), if_pos rfl]
    · rw [swp_other _ _ _ _ h1 h2, h t]
      by_cases h3 : a ≤ t ∧ t < k
      · rw [if_pos h3, if_pos ⟨h3.1, by omega⟩]
      · rw [if_neg h3, if_neg h1, if_neg (by omega), if_neg h2]
theorem up_end (a i b : Nat) (d c : Array Nat) (hi : a + 1 ≤ i) (hib : i ≤ b) (h2 : Srt (a + 1) b d) (h : Up a (i - 1) d c)
    (hlo : ∀ t, a + 1 ≤ t → t < i → key d[t]! ≤ key d[a]!) (hhi : ∀ t, i ≤ t → t < b → key d[a]! ≤ key d[t]!) : Srt a b c := fun x y hx hxy hy => by
  have g1 : ∀ t, a ≤ t → t < i - 1 → c[t]! = d[t + 1]! := fun t p q => by rw [h t, if_pos ⟨p, q⟩]
  have g2 : c[i - 1]! = d[a]! := by rw [h (i - 1), if_neg (by omega), if_pos rfl]
  have g3 : ∀ t, i ≤ t → c[t]! = d[t]! := fun t p => by rw [h t, if_neg (by omega), if_neg (by omega)]
  clear h
  by_cases x1 : x < i - 1
  · rw [g1 x hx x1]
    by_cases y1 : y < i - 1
    · rw [g1 y (by omega) y1]; exact h2 _ _ (by omega) (by omega) (by omega)
    · by_cases y2 : y = i - 1
      · subst y2; rw [g2]; exact hlo _ (by omega) (by omega)
      · rw [g3 y (by omega)]; exact h2.le _ _ (by omega) (by omega) hy
  · by_cases x2 : x = i - 1
    · subst x2; rw [g2, g3 y (by omega)]; exact hhi y (by omega) hy
    · rw [g3 x (by omega), g3 y (by omega)]; exact h2 _ _ (by omega) hxy hy

/-- The element at m has been carried down to k. -/
def Dn (m k : Nat) (d c : Array Nat) : Prop := ∀ t, c[t]! = if k < t ∧ t ≤ m then d[t - 1]! else if t = k then d[m]! else d[t]!
theorem dn_start (m : Nat) (d : Array Nat) : Dn m m d d := fun t => by
  rw [if_neg (by omega)]; split
  · rename_i h; subst h; rfl
  · rfl
theorem dn_step (m k : Nat) (d c : Array Nat) (h0 : 0 < k) (hk : k ≤ m) (hs : k < c.size) (h : Dn m k d c) : Dn m (k - 1) d (swp c k (k - 1)) := fun t => by
  by_cases h1 : t = k
  · subst h1
    rw [swp_left _ _ _ hs (by omega), h (t - 1), if_neg (by omega), if_neg (by omega), if_pos ⟨by omega, hk⟩]
  · by_cases h2 : t = k - 1
    · subst h2
      rw [swp_right _ _ _ (by omega), h k, if_neg (by omega), if_pos rfl, if_neg (by omega), if_pos rfl]
    · rw [swp_other _ _ _ _ h1 h2, h t]
      by_cases h3 : k < t ∧ t ≤ m
      · rw [if_pos h3, if_pos ⟨by omega, h3.2⟩]
      · rw [if_neg h3, if_neg h1, if_neg (by omega), if_neg h2]
theorem dn_end (a i m : Nat) (d c : Array Nat) (hi : a ≤ i) (him : i ≤ m) (h1 : Srt a m d) (h : Dn m i d c)
    (hlo : ∀ t, a ≤ t → t < i → key d[t]! ≤ key d[m]!) (hhi : ∀ t, i ≤ t → t < m → key d[m]! ≤ key d[t]!) : Srt a (m + 1) c := fun x y hx hxy hy => by
  have g1 : ∀ t, i < t → t ≤ m → c[t]! = d[t - 1]! := fun t p q => by rw [h t, if_pos ⟨p, q⟩]
  have g2 : c[i]! = d[m]! := by rw [h i, if_neg (by omega), if_pos rfl]
  have g3 : ∀ t, t < i → c[t]! = d[t]! := fun t p => by rw [h t, if_neg (by omega), if_neg (by omega)]
  clear h
  by_cases x1 : x < i
  · rw [g3 x x1]
    by_cases y1 : y < i
    · rw [g3 y y1]; exact h1 _ _ hx hxy (by omega)
    · by_cases y2 : y = i
      · subst y2; rw [g2]; exact hlo _ hx x1
      · rw [g1 y (by omega) (by omega)]; exact h1.le _ _ hx (by omega) (by omega)
  · by_cases x2 : x = i
    · subst x2; rw [g2, g1 y (by omega) (by omega)]; exact hhi _ (by omega) (by omega)
    · rw [g1 x (by omega) (by omega), g1 y (by omega) (by omega)]; exact h1 _ _ (by omega) (by omega) (by omega)

theorem less_iff (x y : Nat) : less x y = true ↔ key x < key y := by unfold less; simp
theorem less_not (x y : Nat) : less x y = false ↔ key y ≤ key x := by unfold less; simp

end Fl
end Go.Proofs.Ytelhokjjllikhaa
