/-
  DERIVED. The test that the program hands to the library: it reads the row as it stands.
-/
import Derived.Test.YtelhokjjllikhaaStab
namespace Go.Proofs.Ytelhokjjllikhaa
open Go.RowKit Go.Sort

theorem less_back (a b : Nat) (w : World) : Calls Try.prog 20 #[.float .f64 a, .float .f64 b] w fun e w' => e = .returned (.bool (Fl.less a b)) ∧ w' = w :=
  (less_any a b w).mono fun _ _ ⟨he, hw⟩ => ⟨he, hw.symm⟩

set_option maxHeartbeats 800000 in
theorem clos_any (blk off c Bs size : Nat) (W : World) (G : Nat → Nat) (hs : W.cell? ⟨Bs, 0, none⟩ = some (.slice (some ⟨blk, off, none⟩) size c))
    (hc : ∀ t, t < size → W.cell? ⟨blk, off + t, none⟩ = some (.float .f64 (G t))) (i j : Nat) (hi : i < size) (hj : j < size) :
    Calls Try.prog 23 #[.int .i64 i, .int .i64 j, .pointer (some ⟨Bs, 0, none⟩)] W fun e w' => e = .returned (.bool (Fl.less (G i) (G j))) ∧ ∃ q, w' = W.drewN q := by
  have ci := hc i hi
  have cj := hc j hj
  clear hc
  go_enter Try.func23, Try.ntmps23
  go_wp2
  go_quiet ((go_at_call 20; exact Calls.quiet_of_same (less_back _ _ _)))
  go_wp2
  go_ret
  exact ⟨rfl, nq, rfl⟩

end Go.Proofs.Ytelhokjjllikhaa
