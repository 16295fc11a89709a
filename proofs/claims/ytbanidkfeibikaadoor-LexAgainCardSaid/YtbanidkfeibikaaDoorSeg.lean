/-
  DERIVED. Plain: each sign's place behind the one ahead of it; the joined texts grow by one.
-/
import Derived.Test.YtbanidkfeibikaaDoorChain
namespace Go.Proofs.YtbanidkfeibikaaDoor
namespace Tx

/-- Behind the sign ahead of the k-th. -/
def lastAt : Nat → List Sg → Nat → Nat
  | st, _, 0 => st
  | st, [], _ + 1 => st
  | _, a :: l, k + 1 => lastAt (a.pos + a.text.size) l k

theorem lastAt_zero (st : Nat) (l : List Sg) : lastAt st l 0 = st := by cases l <;> rfl
theorem lastAt_succ : ∀ (l : List Sg) (st k : Nat) (hk : k < l.length), lastAt st l (k + 1) = l[k].pos + l[k].text.size
  | [], _, k, hk => absurd hk (by simp)
  | a :: l, st, 0, _ => by show lastAt _ l 0 = _; rw [lastAt_zero]; rfl
  | a :: l, st, k + 1, hk => by
    show lastAt _ l (k + 1) = _
    rw [lastAt_succ l _ k (by simpa using hk)]
    rfl

theorem nx_shape (s : ByteArray) (i : Nat) (hi : i ≤ s.size) :
    i ≤ (nx s i).sg.pos ∧ (nx s i).stop = (nx s i).sg.pos + (nx s i).sg.text.size ∧ (nx s i).stop ≤ s.size ∧ s.extract (nx s i).sg.pos ((nx s i).sg.pos + (nx s i).sg.text.size) = (nx s i).sg.text := by
  have h := nx_list s i
  have hle := tokL_le (s.data.toList.drop (skp s i))
  have hk := skp_le s i hi
  rw [List.length_drop, len_eq] at hle
  have hsz : (s.extract (skp s i) (skp s i + (tokL (s.data.toList.drop (skp s i))).len)).size = (tokL (s.data.toList.drop (skp s i))).len := by
    rw [part_size _ _ _ (by omega)]; omega
  rw [h]
  refine ⟨skp_ge s i, ?_, ?_, ?_⟩
  · show _ = _ + ByteArray.size _; rw [hsz]
  · show skp s i + _ ≤ _; omega
  · show s.extract _ (_ + ByteArray.size _) = _; rw [hsz]

theorem seg : ∀ (l : List Sg) (s : ByteArray) (i : Nat), Chain s i l → i ≤ s.size → ∀ (k : Nat) (hk : k < l.length),
    lastAt i l k ≤ l[k].pos ∧ l[k].pos + l[k].text.size ≤ s.size ∧ s.extract l[k].pos (l[k].pos + l[k].text.size) = l[k].text
  | [], s, i, h => h.elim
  | a :: l, s, i, h => by
    obtain ⟨h0, rfl, h1⟩ := h
    intro hi k hk
    obtain ⟨n1, n2, n3, n4⟩ := nx_shape s i hi
    match k, hk with
    | 0, _ =>
      rw [lastAt_zero]
      exact ⟨n1, by rw [n2] at n3; exact n3, n4⟩
    | k + 1, hk =>
      rcases h1 with ⟨_, rfl⟩ | ⟨_, hc⟩
      · simp at hk
      · have := seg l s _ hc n3 k (by simpa using hk)
        rw [n2] at this
        exact this

theorem joined_append : ∀ (a b : List Sg), joined (a ++ b) = joined a ++ joined b
  | [], b => rfl
  | x :: a, b => by
    show x.text.data.toList ++ 32 :: joined (a ++ b) = (x.text.data.toList ++ 32 :: joined a) ++ joined b
    rw [joined_append a b, List.append_assoc]; rfl
theorem joined_take (l : List Sg) (k : Nat) (hk : k < l.length) : joined (l.take (k + 1)) = joined (l.take k) ++ l[k].text.data.toList ++ [32] := by
  rw [List.take_succ_eq_append_getElem hk, joined_append]
  show _ ++ (_ ++ 32 :: joined []) = _
  rw [← List.append_assoc]; rfl
theorem joined_len (l : List Sg) (s : ByteArray) (h : Chain s 0 l) : ∀ k, k ≤ l.length → (joined (l.take k)).length ≤ lastAt 0 l k + k
  | 0, _ => by simp [joined]
  | k + 1, hk => by
    have ih := joined_len l s h k (by omega)
    have hs := seg l s 0 h (Nat.zero_le _) k (by omega)
    rw [joined_take l k (by omega), lastAt_succ l 0 k (by omega), List.length_append, List.length_append, len_eq]
    simp only [List.length_cons, List.length_nil]
    omega
theorem last_le (l : List Sg) (s : ByteArray) (h : Chain s 0 l) : ∀ k, k ≤ l.length → lastAt 0 l k ≤ s.size
  | 0, _ => by rw [lastAt_zero]; exact Nat.zero_le _
  | k + 1, hk => by
    have hs := seg l s 0 h (Nat.zero_le _) k (by omega)
    rw [lastAt_succ l 0 k (by omega)]
    exact hs.2.1

theorem go_err : ∀ (f : Nat) (s : ByteArray) (i : Nat) (acc : List Sg), (go f s i acc).2.2 ≠ 0 → (go f s i acc).1 = []
  | 0, s, i, acc, h => absurd rfl h
  | f + 1, s, i, acc, h => by
    unfold go at h ⊢
    by_cases h0 : (nx s i).err = 0
    · rw [if_pos h0] at h ⊢
      by_cases hk : (nx s i).sg.kind = 0
      · rw [if_pos hk] at h; exact absurd rfl h
      · rw [if_neg hk] at h ⊢; exact go_err f s _ _ h
    · rw [if_neg h0]
theorem alls_err (s : ByteArray) (h : (alls s).2.2 ≠ 0) : (alls s).1 = [] := by
  unfold alls at h ⊢
  by_cases hl : 65536 < s.size
  · rw [if_pos hl]
  · rw [if_neg hl] at h ⊢; exact go_err _ _ _ _ h
theorem alls_chain (s : ByteArray) (h : (alls s).2.2 = 0) : Chain s 0 (alls s).1 := by
  unfold alls at h ⊢
  by_cases hl : 65536 < s.size
  · rw [if_pos hl] at h; exact absurd h (show ¬ (3 : Int) = 0 by decide)
  · rw [if_neg hl] at h ⊢
    obtain ⟨l, e1, e2, _⟩ := go_chain (s.size + 1) s 0 [] (Nat.zero_le _) (by omega) h
    rw [e1]; exact e2
theorem alls_again (s t : ByteArray) (h : (alls s).2.2 = 0) (ht : t.data.toList = joined (alls s).1) (hz : t.size ≤ 65536) : (alls t).2.2 = 0 ∧ (alls t).1.map key = (alls s).1.map key := by
  obtain ⟨m, c, e⟩ := again_chain _ s 0 (alls_chain s h) t 0 (by rw [List.drop_zero]; exact ht)
  have : alls t = (m, 0, 0) := by
    unfold alls
    rw [if_neg (by omega), chain_go (t.size + 1) t 0 [] m (Nat.zero_le _) (by omega) c]
    rfl
  rw [this]
  exact ⟨rfl, e⟩
end Tx
end Go.Proofs.YtbanidkfeibikaaDoor
