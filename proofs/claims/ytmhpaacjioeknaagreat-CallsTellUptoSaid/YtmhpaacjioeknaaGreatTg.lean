/-
  DERIVED. The walks of the library's Index, Contains and Min over numbers.
-/
import Derived.Test.YtmhpaacjioeknaaGreatTf
namespace Go.Proofs.YtmhpaacjioeknaaGreat
open Go.RowKit Go.Maps Go.Sort Go.WideMaps
namespace Tj

set_option maxHeartbeats 1600000 in
theorem index_m {w : World} {B : Nat} {v : Value} {xs : List Int} (h : OR w B v xs) (x : Int) (hl : xs.length ≤ 1000000) : Calls Tryz.prog 96 #[v, .int .i64 x] w fun e w' => ∃ k : Int, e = .returned (.int .i64 k) ∧ (0 ≤ k ↔ x ∈ xs) ∧ w' = w := by
  have hl' : (xs.length : Int) ≤ 1000000 := by omega
  rcases Nat.eq_zero_or_pos xs.length with h0 | h0
  · obtain ⟨a, c, rfl⟩ := h.shape
    have hx : xs = [] := List.eq_nil_of_length_eq_zero h0
    subst hx
    clear h h0
    go_enter Tryz.func96, Tryz.ntmps96
    go_wp2
    go_loop [5, 8] (fun _ i => i = .int .i64 0) (fun _ _ => 0)
    case atStart => rfl
    case round =>
      subst hrel
      go_wp2
      go_ret
      exact ⟨_, rfl, by simp, rfl⟩
  · obtain ⟨g, c, rfl, -, -⟩ := h.block h0
    have HC := Lib.hid (fun j hj => or_cell (n := xs.length) h rfl j hj)
    obtain ⟨n, hn⟩ : ∃ n, n = xs.length := ⟨_, rfl⟩
    have HN := Lib.hid hn
    rw [← hn] at hl' h0 ⊢
    clear h hn
    go_enter Tryz.func96, Tryz.ntmps96
    go_wp2
    go_loop [5, 8] (fun _ i => ∃ k : Nat, k ≤ n ∧ i = .int .i64 k ∧ Hid (∀ j, j < k → xs.getD j 0 ≠ x)) (fun _ i => n - (Lib.intOf i).toNat)
    case atStart => exact ⟨0, Nat.zero_le _, rfl, Lib.hid (fun j hj => absurd hj (Nat.not_lt_zero _))⟩
    case round =>
      obtain ⟨k, hk, rfl, HNE⟩ := hrel
      by_cases hlt : k < n
      · have hcell := (HC.out k (by rw [← HN.out]; exact hlt)).1
        have hlt' : (k : Int) < (n : Int) := by omega
        by_cases he : xs.getD k 0 = x
        · have HE := Lib.hid he
          rw [he] at hcell
          clear he
          go_wp2
          go_ret
          refine ⟨_, rfl, ⟨fun _ => ?_, fun _ => by omega⟩, rfl⟩
          have hk2 : k < xs.length := by rw [← HN.out]; exact hlt
          have := HE.out
          rw [List.getD_eq_getElem?_getD, List.getElem?_eq_getElem hk2] at this
          rw [← this]
          exact List.getElem_mem hk2
        · have he' : ¬ x = xs.getD k 0 := fun e => he e.symm
          have HE : Hid (∀ j, j = k → xs.getD j 0 ≠ x) := Lib.hid (fun j q => by rw [q]; exact he)
          generalize xs.getD k 0 = y at *
          go_wp2
          exact ⟨⟨k + 1, by omega, by go_num, Lib.hid (fun j hj => by
            rcases Nat.lt_succ_iff_lt_or_eq.1 hj with q | q
            · exact HNE.out j q
            · exact HE.out j q)⟩, by simp [Lib.intOf]; omega⟩
      · have hge : k = n := by omega
        subst hge
        go_wp2
        go_ret
        refine ⟨_, rfl, ⟨fun q => absurd q (by decide), fun q => ?_⟩, rfl⟩
        obtain ⟨j, hj, e⟩ := List.getElem_of_mem q
        exact absurd (by rw [List.getD_eq_getElem?_getD, List.getElem?_eq_getElem hj]; exact e) (HNE.out j (by rw [HN.out]; exact hj))
theorem contains_m {w : World} {B : Nat} {v : Value} {xs : List Int} (h : OR w B v xs) (x : Int) (hl : xs.length ≤ 1000000) : Calls Tryz.prog 87 #[v, .int .i64 x] w fun e w' => e = .returned (.bool (decide (x ∈ xs))) ∧ w' = w := by
  obtain ⟨a, c, hv⟩ := h.shape
  have HI := Lib.hid (index_m h x hl)
  subst hv
  clear h hl
  go_enter Tryz.func87, Tryz.ntmps87
  go_wp2_with (go_at_call 96; refine (HI.out).mono ?_; rintro e w' ⟨k, rfl, hk, rfl⟩; have HK := Lib.hid hk; clear hk)
  go_ret
  refine ⟨?_, rfl⟩
  congr 2
  simp only [HK.out]
  rfl
theorem min_take {xs : List Int} {k : Nat} (hk : k < xs.length) {m : Int} (h1 : m ∈ xs.take k) (h2 : ∀ u ∈ xs.take k, m ≤ u) : min m (xs.getD k 0) ∈ xs.take (k + 1) ∧ ∀ u ∈ xs.take (k + 1), min m (xs.getD k 0) ≤ u := by
  have e : xs.take (k + 1) = xs.take k ++ [xs.getD k 0] := by
    rw [List.take_succ_eq_append_getElem hk, List.getD_eq_getElem?_getD, List.getElem?_eq_getElem hk]; rfl
  rw [e]
  refine ⟨?_, fun u hu => ?_⟩
  · rcases Int.le_total m (xs.getD k 0) with q | q
    · rw [Int.min_eq_left q]; simp [h1]
    · rw [Int.min_eq_right q]; simp
  · rcases List.mem_append.1 hu with q | q
    · exact Int.le_trans (Int.min_le_left _ _) (h2 u q)
    · simp at q; rw [q]; exact Int.min_le_right _ _
set_option maxHeartbeats 1600000 in
theorem min_m {w : World} {b off c n : Nat} {xs : List Int} (hn : n = xs.length) (h0 : 0 < n) (hl : n ≤ 1000000) (hc : ∀ j, j < n → w.cell? ⟨b, off + j, none⟩ = some (.int .i64 (xs.getD j 0))) :
    Calls Tryz.prog 88 #[.slice (some ⟨b, off, none⟩) n c] w fun e w' => ∃ m : Int, e = .returned (.int .i64 m) ∧ m ∈ xs ∧ (∀ u ∈ xs, m ≤ u) ∧ w' = w := by
  have hl' : (n : Int) ≤ 1000000 := by omega
  have h0' : (1 : Int) ≤ (n : Int) := by omega
  have HC := Lib.hid hc
  have HN := Lib.hid hn
  have c0 : w.cell? ⟨b, off, none⟩ = some (.int .i64 (xs.getD 0 0)) := by simpa using hc 0 h0
  have HS : Hid (xs.getD 0 0 ∈ xs.take 1 ∧ ∀ u ∈ xs.take 1, xs.getD 0 0 ≤ u) := Lib.hid (by
    cases xs with
    | nil => rw [hn] at h0; simp at h0
    | cons y ys => simp)
  generalize xs.getD 0 0 = m0 at *
  clear hc hn
  go_enter Tryz.func88, Tryz.ntmps88
  go_wp2
  go_loop [3, 4] (fun sm i => ∃ (k : Nat) (m : Int), k ≤ n ∧ i = .int .i64 k ∧ sm = .int .i64 m ∧ Hid (m ∈ xs.take k ∧ ∀ u ∈ xs.take k, m ≤ u)) (fun _ i => n - (Lib.intOf i).toNat)
  case atStart => exact ⟨1, m0, h0, rfl, rfl, HS⟩
  case round =>
    clear HS c0
    obtain ⟨k, m, hk, rfl, rfl, HM⟩ := hrel
    by_cases hlt : k < n
    · have hcell := HC.out k hlt
      have hlt' : (k : Int) < (n : Int) := by omega
      have HT := Lib.hid (min_take (by rw [← HN.out]; exact hlt) HM.out.1 HM.out.2)
      generalize xs.getD k 0 = y at *
      go_wp2
      exact ⟨⟨k + 1, min m y, by omega, by go_num, rfl, HT⟩, by simp [Lib.intOf]; omega⟩
    · have hge : k = n := by omega
      subst hge
      go_wp2
      go_ret
      have h1 := HM.out
      rw [HN.out, List.take_length] at h1
      exact ⟨m, rfl, h1.1, h1.2, rfl⟩
end Tj
end Go.Proofs.YtmhpaacjioeknaaGreat
