/-
  DERIVED. A field of a cell is made to lead elsewhere.
-/
import Derived.Test.YtocgallcmgnmgaaHe
namespace Go.Proofs.Ytocgallcmgnmgaa
open Go.RowKit Go.Maps

theorem nodup_lt : ∀ (F : Nat) (l : List Nat), l.Nodup → (∀ x ∈ l, x < F) → l.length ≤ F
  | 0, [], _, _ => Nat.le_refl _
  | 0, a :: r, _, h => absurd (h a (by simp)) (by omega)
  | F + 1, l, hn, h => by
    have h1 := nodup_lt F (l.erase F) (hn.erase F) (fun x hx => by
      have hm := List.mem_of_mem_erase hx
      have hne := ((List.Nodup.mem_erase_iff hn).1 hx).1
      have := h x hm; omega)
    have h2 : l.length ≤ (l.erase F).length + 1 := by
      rw [List.length_erase]; split <;> omega
    omega
def kN : Lit → Nat
  | .int _ n => n.toNat
  | _ => 0
theorem kN_IK (k : Nat) : kN (IK k) = k := rfl
theorem far_size {F : Nat} {c : PC} {D : DataW Unit} (hE : ∃ es, D = .map es ∧ es.Pairwise (fun p q => p.1 ≠ q.1) ∧ ∀ p ∈ es, WideAt.IsKeyLit p.1) (h : FarD F c D) : Maps.size D ≤ F := by
  obtain ⟨es, rfl, hp, hk⟩ := hE
  have hkey : ∀ p ∈ es, ∃ k : Nat, k < F ∧ p.1 = IK k := fun p hp => by
    obtain ⟨k, _, h2, h3⟩ := h.2 p.1 (List.any_eq_true.2 ⟨p, hp, WideAt.sameKey_self (hk p hp)⟩)
    exact ⟨k, h2, h3⟩
  show es.length ≤ F
  rw [← List.length_map (f := fun p : Lit × DataW Unit => kN p.1)]
  refine nodup_lt F _ ?_ ?_
  · rw [List.Nodup, List.pairwise_map]
    refine List.Pairwise.imp_of_mem ?_ hp
    intro a b ha hb hne e
    obtain ⟨k, _, e1⟩ := hkey a ha
    obtain ⟨j, _, e2⟩ := hkey b hb
    rw [e1, e2, kN_IK, kN_IK] at e
    exact hne (by rw [e1, e2, e])
  · intro x hx
    obtain ⟨p, hp, rfl⟩ := List.mem_map.1 hx
    obtain ⟨k, h2, e⟩ := hkey p hp
    show kN p.1 < F
    rw [e, kN_IK]; exact h2
theorem owns_fit {w : World} {m n F : Nat} {D : DataW Unit} (h : w.ownsMap Try.prog 3 (plainElem Try.prog 3) m n D) (hs : Maps.size D ≤ F) : w.ownsMap Try.prog 3 (plainElem Try.prog 3) m F D := by
  obtain ⟨es, clock, hb, F0, hn, rfl⟩ := h
  exact ⟨es, clock, hb, F0, by simpa [Maps.size, length_sorted] using hs, rfl⟩
theorem far_put {F k : Nat} {c : PC} {D : DataW Unit} (hm : IsMap D) (h : FarD F c D) (h8 : 8 ≤ k) (hk : k < F) (hF : F ≤ 2000000) (hl : c.to.length = F) (t : Int) : FarD F (putTo c k t) (D.put (IK k) (.lit (.int .i64 t))) := by
  refine ⟨fun j hj hjF => ?_, fun kl hkl => ?_⟩
  · by_cases e : j = k
    · subst e
      rw [atKey_put_same hm (IK_key (by omega)), at_set _ _ _ _ (by omega), if_pos rfl]
    · rw [atKey_put_other (IK_ne e), at_set _ _ _ _ (by omega), if_neg e]
      exact h.1 j hj hjF
  · by_cases e : kl = IK k
    · exact ⟨k, h8, hk, e⟩
    · rw [has_put_other e] at hkl
      exact h.2 kl hkl
theorem far_del {F k : Nat} {c : PC} {D : DataW Unit} (h : FarD F c D) (hk : k < F) (hl : c.to.length = F) : FarD F (putTo c k 0) (D.del (IK k)) := by
  refine ⟨fun j hj hjF => ?_, fun kl hkl => ?_⟩
  · by_cases e : j = k
    · subst e
      rw [atKey_del_same, at_set _ _ _ _ (by omega), if_pos rfl]; rfl
    · rw [atKey_del_other (IK_ne e), at_set _ _ _ _ (by omega), if_neg e]
      exact h.1 j hj hjF
  · by_cases e : kl = IK k
    · rw [e, has_del_same] at hkl; cases hkl
    · rw [has_del_other e] at hkl
      exact h.2 kl hkl
theorem far_none {F : Nat} {c : PC} (h : ∀ k, 8 ≤ k → c.at k = 0) : FarD F c (.map []) := ⟨fun k hk _ => by rw [h k hk]; rfl, fun kl hkl => by cases hkl⟩
theorem ok_put {c : PC} {k : Nat} {t : Int} (h : c.ok) (ht : okI t) (hk : k < c.to.length) : (putTo c k t).ok := fun j => by
  rw [at_set _ _ _ _ hk]
  split
  · exact ht
  · exact h j
theorem hcells_put (c : PC) (far : Option Nat) (k : Nat) (t : Int) (hk : k < 8) (hl : k < c.to.length) (j : Nat) (hj : j < 11) : (hcells (putTo c k t) far)[j]? = if j = 2 + k then some (.int .i64 t) else (hcells c far)[j]? := by
  rcases Nat.lt_or_ge j 2 with h2 | h2
  · rw [if_neg (by omega)]
    match j, h2 with
    | 0, _ => rfl
    | 1, _ => rfl
  · by_cases h10 : j = 10
    · subst h10; rw [if_neg (by omega)]; rfl
    · obtain ⟨i, rfl⟩ : ∃ i, j = 2 + i := ⟨j - 2, by omega⟩
      rw [hcells_near _ _ i (by omega), hcells_near _ _ i (by omega), at_set _ _ _ _ hl]
      by_cases e : i = k
      · subst e; simp
      · rw [if_neg e, if_neg (by omega)]
theorem hcells_far (c : PC) (far far' : Option Nat) (k : Nat) (t : Int) (hk : 8 ≤ k) (hl : k < c.to.length) (j : Nat) (hj : j < 11) : (hcells (putTo c k t) far')[j]? = if j = 10 then some (.map far') else (hcells c far)[j]? := by
  rcases Nat.lt_or_ge j 2 with h2 | h2
  · rw [if_neg (by omega)]
    match j, h2 with
    | 0, _ => rfl
    | 1, _ => rfl
  · by_cases h10 : j = 10
    · subst h10; rw [if_pos rfl]; rfl
    · obtain ⟨i, rfl⟩ : ∃ i, j = 2 + i := ⟨j - 2, by omega⟩
      rw [hcells_near _ _ i (by omega), if_neg h10, hcells_near _ _ i (by omega), at_set _ _ _ _ hl, if_neg (by omega)]
end Go.Proofs.Ytocgallcmgnmgaa
