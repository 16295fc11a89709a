/-
  DERIVED. The library's sort over a row of one's own.
-/
import Derived.Test.YtmhpaacjioeknaaGreatTn
import Derived.Test.YtmhpaacjioeknaaGreatShelf
import Derived.Sort.OwnSortedInts
namespace Go.Proofs.YtmhpaacjioeknaaGreat
open Go.RowKit Go.Maps Go.Sort Go.WideMaps
namespace Tj

theorem sort_m {w : World} {B : Nat} {v : Value} {xs : List Int} (h : OR w B v xs) (hl : xs.length ≤ 1000000) :
    Calls Tryz.prog 35 #[v] w fun e w' => e = .returned (.tuple #[]) ∧ OR w' B v (xs.mergeSort fun x y => decide (x ≤ y)) ∧ w.grownBy w' v.ownBlock := by
  have hlen : (xs.mergeSort fun x y => decide (x ≤ y)).length = xs.length := List.length_mergeSort _
  rcases h.2 with ⟨rfl, h0⟩ | ⟨g, cap, cur, rfl, hB, hb, h1, h2, h3, h4⟩
  · have hx : xs = [] := List.eq_nil_of_length_eq_zero h0
    subst hx
    refine (Any.slices_Sort_int_none Tryz.lays189 none 0 w).mono ?_
    rintro e w' ⟨rfl, rfl⟩
    exact ⟨rfl, by simpa using h, ⟨rfl, rfl, rfl, Nat.le_refl _, fun _ _ _ => rfl⟩⟩
  · rw [Nat.mul_one] at h4
    have hH := holds_of_blockI hb h4
    refine (Any.slices_Sort_int Tryz.lays189 g 0 cap xs w hH (Array.getElem?_eq_some_iff.1 hb).1 (by omega)).mono ?_
    rintro e w' ⟨rfl, n, os, rfl⟩
    refine ⟨rfl, ?_, grownBy_sortedI _⟩
    have := ownsRow_sortedI (n := n) (os := os) hlen hB hb h1 h2 h3
    unfold OR
    rw [hlen]
    exact this
theorem mem_sorted (xs : List Int) (x : Int) : x ∈ xs.mergeSort (fun x y => decide (x ≤ y)) ↔ x ∈ xs := (List.mergeSort_perm xs _).mem_iff
theorem sorted_sorted (xs : List Int) : (xs.mergeSort fun x y => decide (x ≤ y)).Pairwise (fun x y => x ≤ y) := by
  have := List.pairwise_mergeSort (le := fun (x y : Int) => decide (x ≤ y)) (fun a b c h1 h2 => by simp at *; omega) (fun a b => by simp; omega) xs
  exact this.imp (fun h => by simpa using h)
theorem nodup_sorted {xs : List Int} (h : xs.Nodup) : (xs.mergeSort fun x y => decide (x ≤ y)).Nodup := (List.mergeSort_perm xs _).nodup_iff.2 h
end Tj
end Go.Proofs.YtmhpaacjioeknaaGreat
