/-
  DERIVED. What a search has still to do; a row of calls.
-/
import Derived.Test.YtmhpaacjioeknaaGreatTi
import Derived.Deep.LoopGhost
namespace Go.Proofs.YtmhpaacjioeknaaGreat
open Go.RowKit Go.Maps Go.Sort Go.WideMaps
namespace Tj

theorem SS.row {w0 w : World} {c : Cn} {XS : List (List Int)} {pv ov : Value} {s : St} (h : SS w0 c XS w pv ov s) {a : Nat} {xs : List Int} (hx : XS[a]? = some xs) : ∃ ar cr, w.cell? ⟨c.wb, a, none⟩ = some (.slice ar xs.length cr) ∧ OR w c.bw (.slice ar xs.length cr) xs := by
  obtain ⟨v, -, hv, hc, -⟩ := h.web.at_ hx
  have h1 : OR w c.bw v xs := own_below hv h.fr
  have h2 : w.cell? ⟨c.wb, a, none⟩ = some v := (h.fr.cell (block_lt_of_cell hc)).trans hc
  obtain ⟨ar, cr, rfl⟩ := h1.shape
  exact ⟨ar, cr, h2, h1⟩
theorem sum_le : ∀ (l m : List Int), l.length = m.length → (∀ i, i < l.length → l.getD i 0 ≤ m.getD i 0) → l.sum ≤ m.sum
  | [], [], _, _ => by simp
  | [], _ :: _, h, _ => by simp at h
  | _ :: _, [], h, _ => by simp at h
  | x :: l, y :: m, h, h2 => by
    have h3 := h2 0 (by simp)
    have h4 := sum_le l m (by simpa using h) (fun i hi => by have := h2 (i + 1) (by simpa using hi); simpa using this)
    simp at h3
    simp only [List.sum_cons]
    omega
theorem sum_set : ∀ (l : List Int) (a : Nat), a < l.length → (l.set a (l.getD a 0 + 1)).sum = l.sum + 1
  | [], _, h => by simp at h
  | x :: l, 0, _ => by simp; omega
  | x :: l, a + 1, h => by
    have := sum_set l a (by simpa using h)
    simp only [List.set_cons_succ, List.sum_cons, List.getD_cons_succ]
    omega
def tot (XS : List (List Int)) : Int := (XS.map fun r => (r.length : Int)).sum
theorem Inv.done_le {XS : List (List Int)} {s : St} (h : Inv XS s) : s.done.sum ≤ tot XS := by
  refine sum_le _ _ (by rw [h.ld, List.length_map]) (fun i hi => ?_)
  have h1 := (h.dle i (by rw [← h.ld]; exact hi)).2
  have h2 : (XS.map fun r => (r.length : Int)).getD i 0 = ((XS.getD i []).length : Int) := by
    rw [List.getD_eq_getElem?_getD, List.getD_eq_getElem?_getD, List.getElem?_map]
    cases XS[i]? <;> rfl
  rw [h2]
  exact h1
/-- What is to do: twice the calls that were not followed, and the path. -/
def mu (XS : List (List Int)) (s : St) : Nat := 2 * (tot XS - s.done.sum).toNat + s.path.length
theorem mu_adv {XS : List (List Int)} {s s' : St} (h : Inv XS s) (h' : Inv XS s') {a : Nat} (ha : a < XS.length) (hd : s'.done = (bump s a).done) (hp : s'.path.length ≤ s.path.length + 1) : mu XS s' < mu XS s := by
  have h1 := h'.done_le
  have h2 : s'.done.sum = s.done.sum + 1 := by
    rw [hd]
    exact sum_set s.done a (by rw [h.ld]; exact ha)
  unfold mu
  omega
theorem mu_leave {XS : List (List Int)} {s s' : St} (hd : s'.done = s.done) (hp : s'.path.length < s.path.length) : mu XS s' < mu XS s := by
  unfold mu
  rw [hd]
  omega
theorem mono_meet {s : St} (x : Nat) (hx : x < s.rank.length) : (∀ u, s.rk u ≠ 0 → (meet s x).rk u ≠ 0) ∧ (meet s x).rk x ≠ 0 := by
  have hg : ∀ u, (meet s x).rk u = if u = x then (s.met : Int) + 1 else s.rk u := fun u => gs s.rank x u _ hx
  refine ⟨fun u q => ?_, ?_⟩
  · rw [hg]; split
    · omega
    · exact q
  · rw [hg, if_pos rfl]; omega
end Tj
end Go.Proofs.YtmhpaacjioeknaaGreat
