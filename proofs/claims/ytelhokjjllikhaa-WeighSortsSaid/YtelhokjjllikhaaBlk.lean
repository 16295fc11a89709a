/-
  DERIVED. Plain mathematics of blocks that are merged two by two.
-/
import Derived.Test.YtelhokjjllikhaaMerge
namespace Go.Proofs.Ytelhokjjllikhaa
namespace Fl
open Go.Sort

theorem Srt.sub {a b a' b' : Nat} {d : Array Nat} (h : Srt a b d) (ha : a ≤ a') (hb : b' ≤ b) : Srt a' b' d := fun i j h1 h2 h3 => h i j (by omega) h2 (by omega)

/-- Each block of bs places is sorted, as far as n. -/
def Blk (bs n : Nat) (c : Array Nat) : Prop := ∀ t i j, t * bs ≤ i → i < j → j < t * bs + bs → j < n → key c[i]! ≤ key c[j]!

/-- Blocks of twice bs are done up to a, those of bs stand from a on. -/
def Mid (bs n t a : Nat) (c : Array Nat) : Prop :=
  a = t * (2 * bs) ∧ (∀ u i j, u < t → u * (2 * bs) ≤ i → i < j → j < u * (2 * bs) + 2 * bs → key c[i]! ≤ key c[j]!) ∧
    ∀ u i j, 2 * t ≤ u → u * bs ≤ i → i < j → j < u * bs + bs → j < n → key c[i]! ≤ key c[j]!

theorem blk_all (bs n : Nat) (c : Array Nat) (h : Blk bs n c) (hn : n ≤ bs) : Srt 0 n c := fun i j _ h2 h3 => h 0 i j (by omega) h2 (by omega) h3

theorem mid_start (bs n : Nat) (c : Array Nat) (h : Blk bs n c) : Mid bs n 0 0 c := ⟨by omega, fun u i j h1 => by omega, fun u i j _ => h u i j⟩

theorem two_mul_mul (t bs : Nat) : 2 * t * bs = t * (2 * bs) := by rw [Nat.mul_comm 2 t, Nat.mul_assoc]

theorem mid_left (bs n t a hi : Nat) (c : Array Nat) (h : Mid bs n t a c) (h1 : hi ≤ a + bs) (h2 : hi ≤ n) : Srt a hi c := fun i j p q r => by
  obtain ⟨e, _, R⟩ := h
  have e2 := two_mul_mul t bs
  exact R (2 * t) i j (Nat.le_refl _) (by omega) q (by omega) (by omega)

theorem mid_right (bs n t a hi : Nat) (c : Array Nat) (h : Mid bs n t a c) (h1 : hi ≤ a + 2 * bs) (h2 : hi ≤ n) : Srt (a + bs) hi c := fun i j p q r => by
  obtain ⟨e, _, R⟩ := h
  have e2 := two_mul_mul t bs
  have e3 : (2 * t + 1) * bs = 2 * t * bs + bs := by rw [Nat.add_mul, Nat.one_mul]
  exact R (2 * t + 1) i j (by omega) (by omega) q (by omega) (by omega)

theorem mid_step (bs n t a : Nat) (c c' : Array Nat) (h : Mid bs n t a c) (hp : PermIn a (a + 2 * bs) c c') (hs : Srt a (a + 2 * bs) c') : Mid bs n (t + 1) (a + 2 * bs) c' := by
  obtain ⟨e, D, R⟩ := h
  have e0 : (t + 1) * (2 * bs) = t * (2 * bs) + 2 * bs := by rw [Nat.add_mul, Nat.one_mul]
  refine ⟨by omega, fun u i j h1 h2 h3 h4 => ?_, fun u i j h1 h2 h3 h4 h5 => ?_⟩
  · by_cases hu : u = t
    · subst hu; exact hs i j (by omega) h3 (by omega)
    · have g : (u + 1) * (2 * bs) ≤ t * (2 * bs) := Nat.mul_le_mul_right _ (by omega)
      have g2 : (u + 1) * (2 * bs) = u * (2 * bs) + 2 * bs := by rw [Nat.add_mul, Nat.one_mul]
      rw [hp.2.1 i (Or.inl (by omega)), hp.2.1 j (Or.inl (by omega))]
      exact D u i j (by omega) h2 h3 h4
  · have g : (2 * (t + 1)) * bs ≤ u * bs := Nat.mul_le_mul_right _ h1
    have g2 := two_mul_mul (t + 1) bs
    rw [hp.2.1 i (Or.inr (by omega)), hp.2.1 j (Or.inr (by omega))]
    exact R u i j (by omega) h2 h3 h4 h5

theorem mid_end (bs n t a : Nat) (c c' : Array Nat) (h : Mid bs n t a c) (hn : n < a + 2 * bs) (hp : PermIn a n c c') (hs : Srt a n c') : Blk (bs * 2) n c' := by
  obtain ⟨e, D, R⟩ := h
  intro u i j h1 h2 h3 h4
  rw [Nat.mul_comm bs 2] at h1 h3
  by_cases hu : u < t
  · have g : (u + 1) * (2 * bs) ≤ t * (2 * bs) := Nat.mul_le_mul_right _ (by omega)
    have g2 : (u + 1) * (2 * bs) = u * (2 * bs) + 2 * bs := by rw [Nat.add_mul, Nat.one_mul]
    rw [hp.2.1 i (Or.inl (by omega)), hp.2.1 j (Or.inl (by omega))]
    exact D u i j hu h1 h2 h3
  · by_cases hu2 : u = t
    · subst hu2; exact hs i j (by omega) h2 h4
    · have g : (t + 1) * (2 * bs) ≤ u * (2 * bs) := Nat.mul_le_mul_right _ (by omega)
      have g2 : (t + 1) * (2 * bs) = t * (2 * bs) + 2 * bs := by rw [Nat.add_mul, Nat.one_mul]
      omega

theorem blk_first (n t : Nat) (c c' : Array Nat) (h : ∀ u i j, u < t → u * 20 ≤ i → i < j → j < u * 20 + 20 → key c[i]! ≤ key c[j]!) (hn : n < t * 20 + 20)
    (hp : PermIn (t * 20) n c c') (hs : Srt (t * 20) n c') : Blk 20 n c' := by
  intro u i j h1 h2 h3 h4
  by_cases hu : u < t
  · rw [hp.2.1 i (Or.inl (by omega)), hp.2.1 j (Or.inl (by omega))]
    exact h u i j hu h1 h2 h3
  · exact hs i j (by omega) h2 h4

theorem low_step (t : Nat) (c c' : Array Nat) (h : ∀ u i j, u < t → u * 20 ≤ i → i < j → j < u * 20 + 20 → key c[i]! ≤ key c[j]!)
    (hp : PermIn (t * 20) (t * 20 + 20) c c') (hs : Srt (t * 20) (t * 20 + 20) c') : ∀ u i j, u < t + 1 → u * 20 ≤ i → i < j → j < u * 20 + 20 → key c'[i]! ≤ key c'[j]! := by
  intro u i j h1 h2 h3 h4
  by_cases hu : u < t
  · rw [hp.2.1 i (Or.inl (by omega)), hp.2.1 j (Or.inl (by omega))]
    exact h u i j hu h2 h3 h4
  · exact hs i j (by omega) h3 (by omega)

end Fl
end Go.Proofs.Ytelhokjjllikhaa
