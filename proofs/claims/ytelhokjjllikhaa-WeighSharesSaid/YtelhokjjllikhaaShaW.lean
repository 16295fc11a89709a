/-
  DERIVED. The walk of the law on the share.
-/
import Derived.Test.YtelhokjjllikhaaLives
namespace Go.Proofs.Ytelhokjjllikhaa
open Go.RowKit

namespace Fl
theorem same_self (a : Nat) : same a a = true := by unfold same; simp
end Fl

set_option maxHeartbeats 800000 in
theorem shares_any (p q : Nat) (w : World) :
    Calls Try.prog 4 #[.float .f64 p, .float .f64 q] w fun e w' => e = .returned (.bool true) ∧ Below w.heap.size w w' := by
  have hle := Fl.shr_le p q
  have hu := Fl.unit_word _ hle
  have s1 : (FloatKind.f64.format.order (Fl.shr p q) 0 == some .gt || FloatKind.f64.format.order (Fl.shr p q) 0 == some .eq) = true := by
    rw [Fl.t_gt, Fl.t_eq, hu.1, hu.2, Fl.nan_lit0, Fl.sg_lit0]; simp; omega
  have s2 : (FloatKind.f64.format.order (Fl.shr p q) 4607182418800017408 == some .lt || FloatKind.f64.format.order (Fl.shr p q) 4607182418800017408 == some .eq) = true := by
    rw [Fl.t_lt, Fl.t_eq, hu.1, hu.2, Fl.nan_lit1, Fl.sg_lit1]; simp; omega
  have s3 := Fl.same_self (Fl.shr p q)
  have hlt : Fl.shr p q < 18446744073709551616 := by omega
  have HL := Lib.hid hlt
  clear hle hu hlt
  go_enter Try.func4, Try.ntmps4
  go_wp2_with (first | (go_at_call 18; refine (share_any _ _ _).mono ?_; rintro e w' ⟨rfl, rfl⟩) | (go_at_call 19; refine (refshare_any _ _ _).mono ?_; rintro e w' ⟨rfl, rfl⟩) | (go_at_call 11; refine (alike_any _ _ _ (by exact HL.out) (by exact HL.out)).mono ?_; rintro e w' ⟨rfl, rfl⟩) | (go_at_call 7; refine (lives_any _).mono ?_; rintro e w' ⟨rfl, hbl⟩))
  go_ret
  exact ⟨rfl, by assumption⟩

end Go.Proofs.Ytelhokjjllikhaa
