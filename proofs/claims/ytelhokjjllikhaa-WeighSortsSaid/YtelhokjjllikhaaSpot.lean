/-
  DERIVED. Plain mathematics of sorted rows: where a rank leads, and that two sorted rows of one lot are alike place by place.
-/
import Derived.Test.YtelhokjjllikhaaBlk
import Derived.Test.YtelhokjjllikhaaIns
import Derived.Test.YtelhokjjllikhaaRank
namespace Go.Proofs.Ytelhokjjllikhaa
namespace Fl
open Go.Sort

theorem perm_all (n : Nat) (d d' : Array Nat) (hn : n = d.size) (h : PermIn 0 n d d') : d'.toList.Perm d.toList := by
  have := h.2.2
  subst hn
  have e1 : (d'.extract 0 d.size).toList = d'.toList := by rw [← h.1]; simp
  have e2 : (d.extract 0 d.size).toList = d.toList := by simp
  rw [e1, e2] at this
  exact this

theorem count_all (p : Nat → Bool) (L : List Nat) (h : ∀ k (hk : k < L.length), p L[k] = true) : L.countP p = L.length :=
  List.countP_eq_length.2 fun x hx => by obtain ⟨k, hk, rfl⟩ := List.getElem_of_mem hx; exact h k hk
theorem count_none (p : Nat → Bool) (L : List Nat) (h : ∀ k (hk : k < L.length), p L[k] = false) : L.countP p = 0 :=
  List.countP_eq_zero.2 fun x hx => by obtain ⟨k, hk, rfl⟩ := List.getElem_of_mem hx; simp [h k hk]

theorem getE (d : Array Nat) (k : Nat) (hk : k < d.size) : d[k]! = d.toList[k]'(by simpa using hk) := by
  rw [getElem!_pos d k hk]; simp

theorem rank_spot (n : Nat) (d d' : Array Nat) (hn : n = d.size) (hp : PermIn 0 n d d') (hs : Srt 0 n d') (i : Nat) (hi : i < n) :
    ∃ r : Nat, cnt d.toList d'[i]! = (r : Int) ∧ r ≤ i ∧ key d'[r]! = key d'[i]! := by
  have hsz : d'.size = n := by rw [hp.1, hn]
  have hperm := perm_all n d d' hn hp
  refine ⟨d'.toList.countP fun y => less y d'[i]!, ?_, ?_⟩
  · unfold cnt; rw [hperm.countP_eq]
  · have hle : (d'.toList.countP fun y => less y d'[i]!) ≤ i := by
      have e : d'.toList = d'.toList.take i ++ d'.toList.drop i := (List.take_append_drop i d'.toList).symm
      rw [e, List.countP_append]
      have h0 : (d'.toList.drop i).countP (fun y => less y d'[i]!) = 0 := count_none _ _ fun k hk => by
        rw [List.length_drop, Array.length_toList] at hk
        rw [List.getElem_drop, ← getE d' (i + k) (by omega)]
        exact (less_not _ _).2 (hs.le i (i + k) (by omega) (by omega) (by omega))
      rw [h0]
      have := List.countP_le_length (p := fun y => less y d'[i]!) (l := d'.toList.take i)
      have h2 := List.length_take_le i d'.toList
      omega
    refine ⟨hle, ?_⟩
    generalize hr : (d'.toList.countP fun y => less y d'[i]!) = r at hle
    have h1 := hs.le r i (by omega) hle hi
    rcases Int.lt_or_le (key d'[r]!) (key d'[i]!) with h | h
    · exfalso
      have e : d'.toList = d'.toList.take (r + 1) ++ d'.toList.drop (r + 1) := (List.take_append_drop _ d'.toList).symm
      rw [e, List.countP_append] at hr
      have h0 : (d'.toList.take (r + 1)).countP (fun y => less y d'[i]!) = (d'.toList.take (r + 1)).length := count_all _ _ fun k hk => by
        rw [List.length_take, Array.length_toList] at hk
        rw [List.getElem_take, ← getE d' k (by omega)]
        have := hs.le k r (by omega) (by omega) (by omega)
        exact (less_iff _ _).2 (by omega)
      rw [h0, List.length_take, Array.length_toList] at hr
      omega
    · omega

/-- Two sorted rows of one lot are alike place by place. -/
theorem same_places (n : Nat) (d' e' : Array Nat) (hd : d'.size = n) (he : e'.size = n) (hperm : d'.toList.Perm e'.toList) (h1 : Srt 0 n d') (h2 : Srt 0 n e') (k : Nat) (hk : k < n) : same d'[k]! e'[k]! = true := by
  have m1 : (d'.toList.map key).Perm (e'.toList.map key) := hperm.map key
  have s1 : (d'.toList.map key).Pairwise (· ≤ ·) := by
    rw [List.pairwise_iff_getElem]
    intro i j hi hj hij
    simp only [List.length_map, Array.length_toList] at hi hj
    rw [List.getElem_map, List.getElem_map, ← getE d' i hi, ← getE d' j hj]
    exact h1 i j (by omega) hij (by omega)
  have s2 : (e'.toList.map key).Pairwise (· ≤ ·) := by
    rw [List.pairwise_iff_getElem]
    intro i j hi hj hij
    simp only [List.length_map, Array.length_toList] at hi hj
    rw [List.getElem_map, List.getElem_map, ← getE e' i hi, ← getE e' j hj]
    exact h2 i j (by omega) hij (by omega)
  have := m1.eq_of_pairwise (le := (· ≤ ·)) (fun a b _ _ h g => Int.le_antisymm h g) s1 s2
  have hk1 : (d'.toList.map key)[k]? = (e'.toList.map key)[k]? := by rw [this]
  unfold same
  rw [getE d' k (by omega), getE e' k (by omega)]
  simp only [List.getElem?_map] at hk1
  rw [List.getElem?_eq_getElem (by simpa using (by omega : k < d'.size)), List.getElem?_eq_getElem (by simpa using (by omega : k < e'.size))] at hk1
  simpa using hk1

end Fl
end Go.Proofs.Ytelhokjjllikhaa
