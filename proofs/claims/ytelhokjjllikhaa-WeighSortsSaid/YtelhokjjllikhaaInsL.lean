/-
  DERIVED. Plain mathematics of a list into which one more is put in its place.
-/
import Derived.Test.YtelhokjjllikhaaSpot
import Derived.Laws.CopyOwn
namespace Go.Proofs.Ytelhokjjllikhaa
open Go.Sort

/-- A list rises by its keys. -/
def Rises (L : List Nat) : Prop := ∀ s t, s < t → t < L.length → Fl.key (L.getD s 0) ≤ Fl.key (L.getD t 0)

theorem getD_ins (L : List Nat) (k x t : Nat) (hk : k ≤ L.length) : (L.take k ++ x :: L.drop k).getD t 0 = if t < k then L.getD t 0 else if t = k then x else L.getD (t - 1) 0 := by
  simp only [List.getD_eq_getElem?_getD]
  by_cases h1 : t < k
  · rw [if_pos h1, List.getElem?_append_left (by rw [List.length_take]; omega), List.getElem?_take, if_pos h1]
  · rw [if_neg h1, List.getElem?_append_right (by rw [List.length_take]; omega), List.length_take, Nat.min_eq_left hk]
    by_cases h2 : t = k
    · subst h2; simp
    · rw [if_neg h2]
      obtain ⟨s, hs⟩ : ∃ s, t - k = s + 1 := ⟨t - k - 1, by omega⟩
      rw [hs, List.getElem?_cons_succ, List.getElem?_drop, show k + s = t - 1 by omega]

theorem rises_ins (L : List Nat) (k x i : Nat) (hl : L.length = i) (hk : k ≤ i) (hs : Rises L) (h1 : ∀ t, t < k → Fl.key (L.getD t 0) ≤ Fl.key x) (h2 : ∀ t, k ≤ t → t < i → Fl.less x (L.getD t 0) = true) : Rises (L.take k ++ x :: L.drop k) := by
  intro s t hst ht
  rw [List.length_append, List.length_take, List.length_cons, List.length_drop] at ht
  rw [getD_ins L k x s (by omega), getD_ins L k x t (by omega)]
  by_cases a1 : s < k
  · rw [if_pos a1]
    by_cases a2 : t < k
    · rw [if_pos a2]; exact hs s t hst (by omega)
    · rw [if_neg a2]
      by_cases a3 : t = k
      · rw [if_pos a3]; exact h1 s a1
      · rw [if_neg a3]; exact hs s (t - 1) (by omega) (by omega)
  · rw [if_neg a1, if_neg (show ¬ t < k by omega), if_neg (show ¬ t = k by omega)]
    by_cases a3 : s = k
    · rw [if_pos a3]
      have := (Fl.less_iff _ _).1 (h2 (t - 1) (by omega) (by omega))
      omega
    · rw [if_neg a3]; exact hs (s - 1) (t - 1) (by omega) (by omega)

theorem perm_ins (L : List Nat) (k x i : Nat) (D : List Nat) (hi : i < D.length) (hx : D[i] = x) (hp : L.Perm (D.take i)) : (L.take k ++ x :: L.drop k).Perm (D.take (i + 1)) := by
  have e1 : (L.take k ++ x :: L.drop k).Perm (x :: L) := by
    refine List.perm_middle.trans ?_
    rw [List.take_append_drop]
  have e2 : D.take (i + 1) = D.take i ++ [x] := by rw [List.take_succ_eq_append_getElem hi, hx]
  rw [e2]
  exact e1.trans ((hp.cons x).trans (List.perm_append_singleton x (D.take i)).symm)

theorem row_ins (C M : List Value) (z x : Value) (k i : Nat) (hM : M.length = i) (hk : k ≤ i) (hC : C.take (i + 1) = M ++ [z]) :
    ((splice C (k + 1) (M.drop k)).set k x).take (i + 1) = M.take k ++ x :: M.drop k := by
  have hlen : i + 1 ≤ C.length := by
    have := congrArg List.length hC
    rw [List.length_take, List.length_append, hM] at this
    simp at this; omega
  have hc : ∀ t, t < i → C[t]? = M[t]? := fun t ht => by
    have := congrArg (fun l => l[t]?) hC
    rw [List.getElem?_take, if_pos (by omega), List.getElem?_append_left (by omega)] at this
    exact this
  apply List.ext_getElem?
  intro t
  rw [List.getElem?_take]
  by_cases h0 : t < i + 1
  · rw [if_pos h0]
    have hsl : k < (splice C (k + 1) (M.drop k)).length := by rw [length_splice _ _ _ (by rw [List.length_drop]; omega)]; omega
    by_cases h1 : t = k
    · subst h1
      rw [List.getElem?_set_self hsl, List.getElem?_append_right (by rw [List.length_take]; omega), List.length_take, hM, Nat.min_eq_left hk]
      simp
    · rw [List.getElem?_set_ne (fun e => h1 e.symm)]
      unfold splice
      by_cases h2 : t < k
      · rw [List.getElem?_append_left (by rw [List.length_take]; omega), List.getElem?_take, if_pos (by omega), hc t (by omega), List.getElem?_append_left (by rw [List.length_take]; omega), List.getElem?_take, if_pos h2]
      · obtain ⟨s, hs⟩ : ∃ s, t - k = s + 1 := ⟨t - k - 1, by omega⟩
        rw [List.getElem?_append_right (by rw [List.length_take]; omega), List.length_take, Nat.min_eq_left (show k + 1 ≤ C.length by omega),
          List.getElem?_append_left (by rw [List.length_drop]; omega), List.getElem?_drop,
          List.getElem?_append_right (by rw [List.length_take]; omega), List.length_take, hM, Nat.min_eq_left hk, hs, List.getElem?_cons_succ, List.getElem?_drop]
        congr 1; omega
  · rw [if_neg h0, List.getElem?_eq_none (by rw [List.length_append, List.length_take, List.length_cons, List.length_drop]; omega)]

end Go.Proofs.Ytelhokjjllikhaa
