/-
  DERIVED. The page's examples hold: the walk of 'lives'.
-/
import Derived.Test.YtelhokjjllikhaaShare
namespace Go.Proofs.Ytelhokjjllikhaa
open Go.RowKit

set_option maxHeartbeats 400000 in
theorem lives_any (w : World) :
    Calls Try.prog 7 #[] w fun e w' => e = .returned (.bool true) ∧ Below w.heap.size w w' := by
  have s1 : Fl.shr 4607182418800017408 4616189618054758400 = 4598175219545276416 := by decide +kernel
  have s2 : (FloatKind.f64.format.order 4598175219545276416 4598175219545276416 == some .eq) = true := by decide +kernel
  have s3 : Fl.less 4607182418800017408 4611686018427387904 = true := by decide +kernel
  have s4 : Fl.cnt [4607182418800017408, 4611686018427387904, 4611686018427387904] 4611686018427387904 = 1 := by decide +kernel
  go_enter Try.func7, Try.ntmps7
  go_wp2_with fail
  refine (share_any _ _ _).mono ?_; rintro e w' ⟨rfl, rfl⟩
  go_wp2_with fail
  refine (rank_row 4611686018427387904 [4607182418800017408, 4611686018427387904, 4611686018427387904] w.heap.size 0 3 _ (by decide) (fun k hk => ?_)).mono ?_
  · match k, hk with
    | 0, _ => go_simp
    | 1, _ => go_simp
    | 2, _ => go_simp
  · rintro e w' ⟨rfl, rfl⟩
    go_wp2_with fail
    refine (less_any _ _ _).mono ?_; rintro e w' ⟨rfl, rfl⟩
    go_wp2
    go_ret
    exact ⟨rfl, (Below.refl _ _).alloc (Nat.le_refl _) _⟩

end Go.Proofs.Ytelhokjjllikhaa
