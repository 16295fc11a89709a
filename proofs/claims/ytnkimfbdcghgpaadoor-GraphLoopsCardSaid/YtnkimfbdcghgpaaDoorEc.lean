/-
  DERIVED. The walk of Branch.
-/
import Derived.Test.YtnkimfbdcghgpaaDoorBd
import Derived.Test.YtnkimfbdcghgpaaDoorCd
namespace Go.Proofs.YtnkimfbdcghgpaaDoor
open Go.RowKit Go.Sort
open Ac

set_option maxHeartbeats 800000 in
theorem branch_any (a : Acn) (w : World) : Calls Tryd.prog 37 #[.agg a.cs] w fun e w' => e = .returned (.bool (branch a)) ∧ Below w.heap.size w w' := by
  have HB0 : Hid (Bk (w.alloc (.cells a.cs 32)) w.heap.size 32 a.cs) := Lib.hid (heap_alloc_new _ _)
  have c0 : (w.alloc (.cells a.cs 32)).cell? ⟨w.heap.size, 0, none⟩ = some (.int .i64 a.kind) := HB0.out.cell 0
  have HR : Hid (branch a = decide (a.kind = 8 ∨ a.kind = 9 ∨ a.kind = 12)) := Lib.hid rfl
  generalize a.kind = k at *
  have hc : k = 8 ∨ k = 9 ∨ k = 12 ∨ ((k == 8) = false ∧ (k == 9) = false ∧ (k == 12) = false) := by simp only [beq_eq_false_iff_ne]; omega
  rcases hc with rfl | rfl | rfl | ⟨h1, h2, h3⟩
  · go_enter Tryd.func37, Tryd.ntmps37
    go_wp2_with fail
    go_ret
    exact ⟨lret_bool (by rw [HR.out]; rfl), (Below.refl _ _).alloc (Nat.le_refl _) _⟩
  · go_enter Tryd.func37, Tryd.ntmps37
    go_wp2_with fail
    go_ret
    exact ⟨lret_bool (by rw [HR.out]; rfl), (Below.refl _ _).alloc (Nat.le_refl _) _⟩
  · go_enter Tryd.func37, Tryd.ntmps37
    go_wp2_with fail
    go_ret
    exact ⟨lret_bool (by rw [HR.out]; rfl), (Below.refl _ _).alloc (Nat.le_refl _) _⟩
  · have HN : Hid (branch a = false) := Lib.hid (by rw [HR.out, decide_eq_false_iff_not]; simp only [beq_eq_false_iff_ne] at h1 h2 h3; omega)
    go_enter Tryd.func37, Tryd.ntmps37
    go_wp2_with fail
    go_ret
    exact ⟨lret_bool HN.out.symm, (Below.refl _ _).alloc (Nat.le_refl _) _⟩
end Go.Proofs.YtnkimfbdcghgpaaDoor
