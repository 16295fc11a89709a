/-
  DERIVED. The law's few; when there is a circle, by the edges.
-/
import Derived.Test.YtnkimfbdcghgpaaDoorYe
namespace Go.Proofs.YtnkimfbdcghgpaaDoor
open Go.RowKit Go.Sort

/-- From where an edge leads one comes to where it starts. -/
def Back (es : List Ed) (n k : Nat) : Prop := ∃ (j : Nat) (e : Ed), j < k ∧ es[j]? = some e ∧ okE n e = true ∧ Rs (web es n) e.t.toNat e.f.toNat
theorem back_zero (es : List Ed) (n : Nat) : ¬ Back es n 0 := fun ⟨_, _, h, _⟩ => by omega
theorem back_succ {es : List Ed} {n k : Nat} {e : Ed} (h : es[k]? = some e) : Back es n (k + 1) ↔ Back es n k ∨ (okE n e = true ∧ Rs (web es n) e.t.toNat e.f.toNat) := by
  constructor
  · rintro ⟨j, x, h1, h2, h3, h4⟩
    by_cases hj : j = k
    · subst hj
      rw [h] at h2; cases h2
      exact .inr ⟨h3, h4⟩
    · exact .inl ⟨j, x, by omega, h2, h3, h4⟩
  · rintro (⟨j, x, h1, h2, h3, h4⟩ | ⟨h3, h4⟩)
    · exact ⟨j, x, by omega, h2, h3, h4⟩
    · exact ⟨k, e, by omega, h, h3, h4⟩
theorem circ_back (es : List Ed) (n : Nat) : Circ (web es n) ↔ Back es n es.length := by
  constructor
  · rintro ⟨p, e, he, hr⟩
    by_cases hp : p < n
    · rw [getD_at (web_at hp)] at he
      unfold row at he
      obtain ⟨h1, h2⟩ := List.mem_filter.1 he
      simp only [Bool.and_eq_true, decide_eq_true_eq] at h2
      obtain ⟨j, hj, hje⟩ := List.getElem_of_mem h1
      refine ⟨j, e, hj, by rw [List.getElem?_eq_getElem hj, hje], h2.1, ?_⟩
      rw [h2.2]; simpa using hr
    · rw [List.getD_eq_getElem?_getD, List.getElem?_eq_none (by rw [web_len]; omega)] at he
      cases he
  · rintro ⟨j, e, hj, he, hok, hr⟩
    have h1 : isPt n e.f = true := by
      unfold okE at hok; exact ((Bool.and_eq_true _ _) ▸ hok).1
    have h2 := isPt_iff.1 h1
    refine ⟨e.f.toNat, e, ?_, hr⟩
    rw [getD_at (web_at (show e.f.toNat < n by omega))]
    unfold row
    refine List.mem_filter.2 ⟨List.mem_of_getElem? he, ?_⟩
    simp only [Bool.and_eq_true, decide_eq_true_eq]
    exact ⟨hok, by omega⟩
def FwPost (g : Gh) (w w' : World) (e : Ending) : Prop := (∃ b : Bool, e = .returned (.bool b) ∧ (b = true → g.es.length ≤ 400)) ∧ Below w.heap.size w w'
set_option maxHeartbeats 1600000 in
set_option maxRecDepth 100000 in
theorem few_any (g : Gh) (w : World) : Calls Tryd.prog 4 #[.agg g.cs] w fun e w' => FwPost g w w' e := by
  have HK : Hid (Bk (w.alloc (.cells g.cs 26)) w.heap.size 26 g.cs) := Lib.hid (heap_alloc_new _ _)
  have HB : Hid (Below w.heap.size w (w.alloc (.cells g.cs 26))) := Lib.hid ((Below.refl _ _).alloc (Nat.le_refl _) _)
  have c0 : (w.alloc (.cells g.cs 26)).cell? ⟨w.heap.size, 0, none⟩ = some (.int .i64 g.pts) := HK.out.cell 0
  have c4 : (w.alloc (.cells g.cs 26)).cell? ⟨w.heap.size, 4, none⟩ = some (.slice g.ep g.es.length g.ec) := HK.out.cell 4
  have c5 : (w.alloc (.cells g.cs 26)).cell? ⟨w.heap.size, 5, none⟩ = some (.slice g.hp g.hn g.hc) := HK.out.cell 5
  have c9 : (w.alloc (.cells g.cs 26)).cell? ⟨w.heap.size, 9, none⟩ = some (.slice g.fp g.fn g.fc) := HK.out.cell 9
  by_cases h1 : g.pts ≤ 200
  · by_cases h2 : (g.es.length : Int) ≤ 400
    · have H2 := Lib.hid h2
      by_cases h3 : (g.hn : Int) ≤ 400
      · go_enter Tryd.func4, Tryd.ntmps4
        go_wp2_with fail
        go_ret
        exact ⟨⟨_, rfl, fun _ => by have := H2.out; omega⟩, HB.out⟩
      · go_enter Tryd.func4, Tryd.ntmps4
        go_wp2_with fail
        go_ret
        exact ⟨⟨_, rfl, fun _ => by have := H2.out; omega⟩, HB.out⟩
    · go_enter Tryd.func4, Tryd.ntmps4
      go_wp2_with fail
      go_ret
      exact ⟨⟨false, rfl, fun e => (by cases e)⟩, HB.out⟩
  · go_enter Tryd.func4, Tryd.ntmps4
    go_wp2_with fail
    go_ret
    exact ⟨⟨false, rfl, fun e => (by cases e)⟩, HB.out⟩
end Go.Proofs.YtnkimfbdcghgpaaDoor
