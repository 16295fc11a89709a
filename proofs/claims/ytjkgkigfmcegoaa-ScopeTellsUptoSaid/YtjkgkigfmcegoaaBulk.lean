/-
  DERIVED. What the bound on the arguments gives: no slice is longer than it.
-/
import Derived.Test.YtjkgkigfmcegoaaRows
namespace Go.Proofs.Ytjkgkigfmcegoaa.bulks

theorem pos {H : Type} : ∀ d : DataW H, 1 ≤ Rows.uptoBulk d
  | .lit (.bool _) | .lit (.int _ _) | .lit (.float _ _) | .lit (.string _) | .lit .nil => by simp [Rows.uptoBulk]
  | .nil | .ptr _ | .slice _ _ | .agg _ | .iface _ _ | .map _ | .held _ => by simp [Rows.uptoBulk]
theorem part_le {H : Type} {d : DataW H} : ∀ {l : List (DataW H)}, d ∈ l → Rows.uptoBulk d ≤ Rows.uptoBulkAll l
  | x :: r, h => by
    simp only [Rows.uptoBulkAll]
    rcases List.mem_cons.1 h with rfl | h
    · omega
    · have := part_le h; omega
theorem len_le {H : Type} : ∀ l : List (DataW H), l.length ≤ Rows.uptoBulkAll l
  | [] => by simp
  | x :: r => by
    have := pos x
    have := len_le r
    simp only [Rows.uptoBulkAll, List.length_cons]; omega
theorem slice_le {H : Type} (es rs : List (DataW H)) : es.length + rs.length + 1 ≤ Rows.uptoBulk (.slice es rs) := by
  have := len_le es
  have := len_le rs
  simp only [Rows.uptoBulk]; omega
theorem slice_elems {H : Type} (es rs : List (DataW H)) : Rows.uptoBulkAll es + 1 ≤ Rows.uptoBulk (.slice es rs) := by
  simp only [Rows.uptoBulk]; omega
end Go.Proofs.Ytjkgkigfmcegoaa.bulks
