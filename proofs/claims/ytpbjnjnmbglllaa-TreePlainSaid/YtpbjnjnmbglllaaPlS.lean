/-
  DERIVED. The walks of the program's Plain: a hop, a declaration, in place.
-/
import Derived.Test.YtpbjnjnmbglllaaOw
namespace Go.Proofs.Ytpbjnjnmbglllaa
open Go.RowKit Go.Sort

set_option maxHeartbeats 400000 in
set_option maxRecDepth 100000 in
theorem plainDecl_any (g q : Nat) (u : Value) (w : World) (hc : w.cell? ⟨g, q + 2, none⟩ = some u) (hf : w.frozen? ⟨g, q + 2, none⟩ = false) :
    Calls Try.prog 45 #[.pointer (some ⟨g, q, none⟩)] w fun e w' => e = .returned (.tuple #[]) ∧ w' = w.setCell ⟨g, q + 2, none⟩ (.int .i64 0) := by
  go_enter Try.func45, Try.ntmps45
  go_wp2_with fail
  go_end0
  exact ⟨rfl, rfl⟩
set_option maxHeartbeats 400000 in
set_option maxRecDepth 100000 in
theorem plainHop_any (g q : Nat) (u : Value) (w : World) (hc : w.cell? ⟨g, q + 1, none⟩ = some u) (hf : w.frozen? ⟨g, q + 1, none⟩ = false) :
    Calls Try.prog 95 #[.pointer (some ⟨g, q, none⟩)] w fun e w' => e = .returned (.tuple #[]) ∧ w' = w.setCell ⟨g, q + 1, none⟩ (.int .i64 0) := by
  go_enter Try.func95, Try.ntmps95
  go_wp2_with fail
  go_end0
  exact ⟨rfl, rfl⟩

end Go.Proofs.Ytpbjnjnmbglllaa
