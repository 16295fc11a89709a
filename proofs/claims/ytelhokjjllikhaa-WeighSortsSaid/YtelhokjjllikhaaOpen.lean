/-
  DERIVED. How a slice of floats that is handed in reads: its words, one by one.
-/
import Derived.Test.YtelhokjjllikhaaRanW
import Derived.Test.YtelhokjjllikhaaPost
import Derived.Deep.Slices
namespace Go.Proofs.Ytelhokjjllikhaa
open Go.ChangeShapes Go.WideShapes Go.ChangeAt Go.RowKit Go.Deep

section
variable {H : Type} {enc : TypeId × Value → H} {P : Program} {w : World} {base : Nat} {spare : Nat → Bool} {held : Bool}

theorem read_float {t : TypeId} {k : FloatKind} {fuel : Nat} {v : Value} {x : DataW H × List MemPlace} (ht : P.underlying t = some (.float k)) (h : DataW.trod enc P w base spare held fuel t [v] = some x) :
    ∃ b, v = .float k b ∧ (Lit.float k b).wf = true := by
  cases fuel with
  | zero => simp [DataW.trod] at h
  | succ n =>
    unfold DataW.trod at h
    rw [ht] at h
    split at h <;> simp_all

theorem open_floats {t e : TypeId} {v : Value} {d : DataW H} {ps : List MemPlace} (ht : P.underlying t = some (.slice e)) (he : P.underlying e = some (.float .f64)) (hc : P.cellsOf e = 1)
    (hv : ∃ a len cap, v = .slice a len cap) (h : DataW.Trod enc P w base (fun _ => true) held t v d ps) :
    ∃ (p : Option Addr) (cap : Nat) (zs : Array Nat), v = .slice p zs.size cap ∧ Reads w p zs ∧ Words zs ∧ zs.size ≤ 9223372036854775807 := by
  obtain ⟨a0, len0, cap0, rfl⟩ := hv
  obtain ⟨fuel, hf⟩ := h
  rcases open_slice1 ht hc hf with ⟨hcs, _⟩ | ⟨a, len, cap, m, n, V, D, Pl, hcs, _, hl, hm, hmm, _, hx⟩
  · simp [Value.cells] at hcs
    obtain ⟨rfl, rfl, rfl⟩ := hcs
    exact ⟨none, 0, #[], rfl, fun h => by simp at h, fun k hk => by simp at hk, by simp⟩
  · simp [Value.cells] at hcs
    obtain ⟨rfl, rfl, rfl⟩ := hcs
    simp only [if_true] at hmm
    subst hmm
    have hB : ∀ i, i < m → ∃ b, V i = .float .f64 b ∧ (Lit.float .f64 b).wf = true := fun i hi => read_float he (hx i hi).2
    obtain ⟨B, hB⟩ := choose_lt (α := Nat) (p := fun i b => V i = .float .f64 b ∧ (Lit.float .f64 b).wf = true) hB
    refine ⟨some a, m, (Array.range len0).map B, by simp, fun h0 => ?_, fun k hk => ?_, ?_⟩
    · simp only [Array.size_map, Array.size_range] at h0
      have hcell : ∀ k, k < len0 → w.cell? (a.add k) = some (encF (B k)) := fun k hk => by rw [(hx k (by omega)).1, (hB k (by omega)).1]; rfl
      obtain ⟨b, off, sp⟩ := a
      have h1 := hcell 0 h0
      cases sp with
      | some s => simp [World.cell?, Addr.add] at h1; split at h1 <;> simp at h1
      | none =>
        refine ⟨b, off, rfl, fun k hk => ?_⟩
        simp only [Array.size_map, Array.size_range] at hk
        have := hcell k hk
        rw [show (⟨b, off, none⟩ : Addr).add k = ⟨b, off + k, none⟩ by simp [Addr.add]] at this
        rw [this, getElem!_pos _ k (by simpa using hk)]
        simp
    · simp only [Array.size_map, Array.size_range] at hk
      have := (hB k (by omega)).2
      rw [getElem!_pos _ k (by simpa using hk)]
      simpa [Lit.wf] using this
    · unfold maxLen at hm
      simp only [Array.size_map, Array.size_range]
      omega
end

/-- A long row: the law looks at its own examples alone. -/
theorem ranks_long (p : Option Addr) (len c : Nat) (w : World) (h : 200 < len) (h2 : len ≤ 9223372036854775807) :
    Calls Try.prog 6 #[.slice p len c] w fun e w' => e = .returned (.bool true) ∧ Below w.heap.size w w' := by
  go_enter Try.func6, Try.ntmps6
  go_wp2_with (go_at_call 7; refine (lives_any _).mono ?_; rintro e w' ⟨rfl, hbl⟩)
  go_ret
  exact ⟨rfl, by assumption⟩

end Go.Proofs.Ytelhokjjllikhaa
