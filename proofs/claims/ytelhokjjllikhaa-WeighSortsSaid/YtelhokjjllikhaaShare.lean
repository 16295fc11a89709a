/-
  DERIVED. The walks of the share, the program's and the document's.
-/
import Derived.Test.YtelhokjjllikhaaQuo
import Derived.Test.YtelhokjjllikhaaRank
namespace Go.Proofs.Ytelhokjjllikhaa
open Go.RowKit

namespace Fl
/-- The share of one float in another one. -/
def shr (p q : Nat) : Nat :=
  if !nan p && decide (0 < sg p) && (!nan q && decide (0 < sg q)) then
    if sg q ≤ sg p then 4607182418800017408 else (floatBits .quo .f64 p q).getD 0
  else 0
theorem shr_le (p q : Nat) : shr p q ≤ 4607182418800017408 := by
  unfold shr
  split
  · rename_i h
    simp only [Bool.and_eq_true, Bool.not_eq_true', decide_eq_true_eq] at h
    split
    · exact Nat.le_refl _
    · obtain ⟨r, hr, hle⟩ := div_le p q h.2.1 h.1.2 (by omega)
      rw [hr]; exact hle
  · omega
theorem t_gt0 (a : Nat) : (FloatKind.f64.format.order a 0 == some .gt) = (!nan a && decide (0 < sg a)) := by
  rw [t_gt, nan_lit0, sg_lit0]; simp
end Fl

set_option maxHeartbeats 400000 in
theorem share_any (p q : Nat) (w : World) :
    Calls Try.prog 18 #[.float .f64 p, .float .f64 q] w fun e w' => e = .returned (.float .f64 (Fl.shr p q)) ∧ w = w' := by
  have s1 := Fl.t_gt0 p
  have s2 := Fl.t_gt0 q
  cases h1 : (!Fl.nan p && decide (0 < Fl.sg p))
  · rw [h1] at s1
    rw [show Fl.shr p q = 0 by unfold Fl.shr; rw [h1]; rfl]
    clear h1 s2
    go_enter Try.func18, Try.ntmps18
    go_wp2
    go_ret
    exact ⟨rfl, rfl⟩
  · rw [h1] at s1
    cases h2 : (!Fl.nan q && decide (0 < Fl.sg q))
    · rw [h2] at s2
      rw [show Fl.shr p q = 0 by unfold Fl.shr; rw [h1, h2]; rfl]
      clear h1 h2
      go_enter Try.func18, Try.ntmps18
      go_wp2
      go_ret
      exact ⟨rfl, rfl⟩
    · rw [h2] at s2
      have g1 : Fl.nan p = false ∧ 0 < Fl.sg p := by simpa using h1
      have g2 : Fl.nan q = false ∧ 0 < Fl.sg q := by simpa using h2
      by_cases h3 : Fl.sg q ≤ Fl.sg p
      · have s3 : (FloatKind.f64.format.order p q == some .gt || FloatKind.f64.format.order p q == some .eq) = true := by
          rw [Fl.t_gt, Fl.t_eq, g1.1, g2.1]; simp; omega
        rw [show Fl.shr p q = 4607182418800017408 by unfold Fl.shr; rw [h1, h2, if_pos (show (true && true) = true from rfl), if_pos h3]]
        clear h1 h2 h3 g1 g2
        go_enter Try.func18, Try.ntmps18
        go_wp2
        go_ret
        exact ⟨rfl, rfl⟩
      · have s3 : (FloatKind.f64.format.order p q == some .gt || FloatKind.f64.format.order p q == some .eq) = false := by
          rw [Fl.t_gt, Fl.t_eq, g1.1, g2.1]; simp; omega
        obtain ⟨r, hr, _⟩ := Fl.div_le p q g2.1 g1.2 (by omega)
        have hq := fun w => run_float_arith (P := Try.prog) w .quo 23 .f64 p q r hr
        rw [show Fl.shr p q = r by unfold Fl.shr; rw [h1, h2, if_pos (show (true && true) = true from rfl), if_neg h3, hr]; rfl]
        clear h1 h2 h3 g1 g2 hr
        go_enter Try.func18, Try.ntmps18
        go_wp2
        go_ret
        exact ⟨rfl, rfl⟩

set_option maxHeartbeats 400000 in
theorem refshare_any (p q : Nat) (w : World) :
    Calls Try.prog 19 #[.float .f64 p, .float .f64 q] w fun e w' => e = .returned (.float .f64 (Fl.shr p q)) ∧ w = w' := by
  have s1 := Fl.t_gt0 p
  have s2 := Fl.t_gt0 q
  cases h1 : (!Fl.nan p && decide (0 < Fl.sg p))
  · rw [h1] at s1
    rw [show Fl.shr p q = 0 by unfold Fl.shr; rw [h1]; rfl]
    clear h1 s2
    go_enter Try.func19, Try.ntmps19
    go_wp2
    go_ret
    exact ⟨rfl, rfl⟩
  · rw [h1] at s1
    cases h2 : (!Fl.nan q && decide (0 < Fl.sg q))
    · rw [h2] at s2
      rw [show Fl.shr p q = 0 by unfold Fl.shr; rw [h1, h2]; rfl]
      clear h1 h2
      go_enter Try.func19, Try.ntmps19
      go_wp2
      go_ret
      exact ⟨rfl, rfl⟩
    · rw [h2] at s2
      have g1 : Fl.nan p = false ∧ 0 < Fl.sg p := by simpa using h1
      have g2 : Fl.nan q = false ∧ 0 < Fl.sg q := by simpa using h2
      by_cases h3 : Fl.sg q ≤ Fl.sg p
      · have s3 : (FloatKind.f64.format.order p q == some .gt || FloatKind.f64.format.order p q == some .eq) = true := by
          rw [Fl.t_gt, Fl.t_eq, g1.1, g2.1]; simp; omega
        rw [show Fl.shr p q = 4607182418800017408 by unfold Fl.shr; rw [h1, h2, if_pos (show (true && true) = true from rfl), if_pos h3]]
        clear h1 h2 h3 g1 g2
        go_enter Try.func19, Try.ntmps19
        go_wp2
        go_ret
        exact ⟨rfl, rfl⟩
      · have s3 : (FloatKind.f64.format.order p q == some .gt || FloatKind.f64.format.order p q == some .eq) = false := by
          rw [Fl.t_gt, Fl.t_eq, g1.1, g2.1]; simp; omega
        obtain ⟨r, hr, _⟩ := Fl.div_le p q g2.1 g1.2 (by omega)
        have hq := fun w => run_float_arith (P := Try.prog) w .quo 23 .f64 p q r hr
        rw [show Fl.shr p q = r by unfold Fl.shr; rw [h1, h2, if_pos (show (true && true) = true from rfl), if_neg h3, hr]; rfl]
        clear h1 h2 h3 g1 g2 hr
        go_enter Try.func19, Try.ntmps19
        go_wp2
        go_ret
        exact ⟨rfl, rfl⟩

end Go.Proofs.Ytelhokjjllikhaa
