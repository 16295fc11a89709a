/-
  DERIVED. Plain: signs one behind the other; the joined texts; the same signs again.
-/
import Derived.Test.YtbanidkfeibikaaDoorAgain
namespace Go.Proofs.YtbanidkfeibikaaDoor
namespace Tx

/-- These are the signs from i on, up to the End. -/
def Chain (s : ByteArray) : Nat → List Sg → Prop
  | _, [] => False
  | i, a :: l => (nx s i).err = 0 ∧ (nx s i).sg = a ∧ ((a.kind = 0 ∧ l = []) ∨ (a.kind ≠ 0 ∧ Chain s (nx s i).stop l))

theorem go_chain : ∀ (f : Nat) (s : ByteArray) (i : Nat) (acc : List Sg), i ≤ s.size → s.size < i + f → (go f s i acc).2.2 = 0 →
    ∃ l, (go f s i acc).1 = acc ++ l ∧ Chain s i l ∧ (go f s i acc).2.1 = 0
  | 0, s, i, acc, hi, hf, _ => absurd hf (by omega)
  | f + 1, s, i, acc, hi, hf, he => by
    unfold go at he ⊢
    by_cases h0 : (nx s i).err = 0
    · rw [if_pos h0] at he ⊢
      by_cases hk : (nx s i).sg.kind = 0
      · rw [if_pos hk]
        exact ⟨[(nx s i).sg], rfl, ⟨h0, rfl, .inl ⟨hk, rfl⟩⟩, rfl⟩
      · rw [if_neg hk] at he ⊢
        have h1 := nx_adv s i h0 hk
        have h2 := nx_stop_le s i hi
        obtain ⟨l, e1, e2, e3⟩ := go_chain f s _ _ h2 (by omega) he
        exact ⟨(nx s i).sg :: l, by rw [e1, List.append_assoc]; rfl, ⟨h0, rfl, .inr ⟨hk, e2⟩⟩, e3⟩
    · rw [if_neg h0] at he; exact absurd he h0

theorem chain_go : ∀ (f : Nat) (s : ByteArray) (i : Nat) (acc l : List Sg), i ≤ s.size → s.size < i + f → Chain s i l → go f s i acc = (acc ++ l, 0, 0)
  | 0, s, i, acc, l, hi, hf, _ => absurd hf (by omega)
  | f + 1, s, i, acc, [], hi, hf, h => h.elim
  | f + 1, s, i, acc, a :: l, hi, hf, h => by
    obtain ⟨h0, rfl, h1⟩ := h
    unfold go
    rw [if_pos h0]
    rcases h1 with ⟨hk, rfl⟩ | ⟨hk, hc⟩
    · rw [if_pos hk]
    · rw [if_neg hk]
      have h1 := nx_adv s i h0 hk
      have h2 := nx_stop_le s i hi
      rw [chain_go f s _ _ l h2 (by omega) hc, List.append_assoc]
      rfl

/-- The texts of signs, a blank behind each. -/
def joined : List Sg → List UInt8
  | [] => []
  | a :: l => a.text.data.toList ++ 32 :: joined l
/-- What is asked of a sign. -/
def key (g : Sg) : Int × List UInt8 × Int := (g.kind, g.text.data.toList, g.num)

theorem nx_list (s : ByteArray) (i : Nat) : nx s i = ⟨⟨(tokL (s.data.toList.drop (skp s i))).kind, skp s i, s.extract (skp s i) (skp s i + (tokL (s.data.toList.drop (skp s i))).len), (tokL (s.data.toList.drop (skp s i))).num⟩, skp s i + (tokL (s.data.toList.drop (skp s i))).len, (tokL (s.data.toList.drop (skp s i))).err⟩ := tok_list s (skp s i)

theorem tokL_end (l : List UInt8) (he : (tokL l).err = 0) (hk : (tokL l).kind = 0) : l = [] := by
  cases l with
  | nil => rfl
  | cons b l =>
    exfalso
    simp only [tokL] at he hk
    split at hk
    · rename_i hl
      rw [if_pos hl] at he
      split at hk
      · rename_i h; rw [if_pos h] at he; exact absurd he (show ¬ (3 : Int) = 0 by decide)
      · dsimp only at hk; split at hk <;> exact absurd hk (by decide)
    · rename_i hl
      rw [if_neg hl] at he
      split at hk
      · rename_i hg
        rw [if_pos hg] at he
        split at hk
        · rename_i h; rw [if_pos h] at he; exact absurd he (show ¬ (3 : Int) = 0 by decide)
        · exact absurd hk (show ¬ (2 : Int) = 0 by decide)
      · rename_i hg
        rw [if_neg hg] at he
        split at hk
        · rename_i h; rw [if_pos h] at he; exact absurd he (show ¬ (4 : Int) = 0 by decide)
        · exact absurd hk (show ¬ (4 : Int) = 0 by decide)

/-- A blank ahead is left behind. -/
theorem nx_blank (t : ByteArray) (j : Nat) (l : List UInt8) (h : t.data.toList.drop j = 32 :: l) : nx t j = nx t (j + 1) ∧ t.data.toList.drop (j + 1) = l ∧ j < t.size := by
  have hj : j < t.size := by
    rcases Nat.lt_or_ge j t.size with h1 | h1
    · exact h1
    · rw [drop_end t j h1] at h; cases h
  have e := drop_at t j hj
  rw [h] at e
  injection e with e1 e2
  refine ⟨?_, e2.symm, hj⟩
  unfold nx
  rw [skp_blank t j hj (by rw [← e1]; rfl)]

theorem again_chain : ∀ (l : List Sg) (s : ByteArray) (i : Nat), Chain s i l → ∀ (t : ByteArray) (j : Nat), t.data.toList.drop j = joined l → ∃ m, Chain t j m ∧ m.map key = l.map key
  | [], s, i, h => h.elim
  | a :: l, s, i, h => by
    obtain ⟨h0, rfl, h1⟩ := h
    intro t j hj
    have hs := nx_list s i
    generalize hD : s.data.toList.drop (skp s i) = D at hs
    have hpt := part_take s (skp s i) (tokL D).len
    rw [hD] at hpt
    have htext : (nx s i).sg.text.data.toList = D.take (tokL D).len := by rw [hs]; exact hpt
    have hkind : (nx s i).sg.kind = (tokL D).kind := by rw [hs]
    have hnum : (nx s i).sg.num = (tokL D).num := by rw [hs]
    have herr : (tokL D).err = 0 := by rw [hs] at h0; exact h0
    rcases h1 with ⟨hk, rfl⟩ | ⟨hk, hc⟩
    · have hDe : D = [] := tokL_end D herr (by rw [← hkind]; exact hk)
      have ht0 : (nx s i).sg.text.data.toList = [] := by rw [htext, hDe]; rfl
      have hj' : t.data.toList.drop j = 32 :: [] := by rw [hj]; show _ ++ 32 :: joined [] = _; rw [ht0]; rfl
      obtain ⟨e1, e2, e3⟩ := nx_blank t j [] hj'
      have hsz : t.size ≤ j + 1 := by
        have := congrArg List.length e2
        rw [List.length_drop, len_eq] at this
        simp at this; omega
      have hsk : skp t (j + 1) = j + 1 := skp_end t (j + 1) hsz
      have hnx : nx t j = An.bad (j + 1) 0 := by rw [e1]; unfold nx; rw [hsk, tok_end t (j + 1) (by omega)]
      refine ⟨[(nx t j).sg], ⟨by rw [hnx]; rfl, rfl, .inl ⟨by rw [hnx]; rfl, rfl⟩⟩, ?_⟩
      simp only [List.map_cons, List.map_nil]
      unfold key
      rw [hk, ht0, hnum, hDe, hnx]
      rfl
    · have hk' : (tokL D).kind ≠ 0 := by rw [← hkind]; exact hk
      obtain ⟨g1, g2⟩ := tokL_again D (joined l) herr hk'
      have hj' : t.data.toList.drop j = D.take (tokL D).len ++ 32 :: joined l := by rw [hj]; show _ ++ 32 :: joined l = _; rw [htext]
      rw [← hj'] at g1 g2
      have hsk : skp t j = j := by unfold skp; rw [g2]; rfl
      have ht := nx_list t j
      rw [hsk, g1] at ht
      have hlen := tokL_le D
      have hdrop : t.data.toList.drop (j + (tokL D).len) = 32 :: joined l := by
        rw [← List.drop_drop, hj', List.drop_left' (by rw [List.length_take]; omega)]
      obtain ⟨e1, e2, e3⟩ := nx_blank t (j + (tokL D).len) (joined l) hdrop
      obtain ⟨m, c1, c2⟩ := again_chain l s _ hc t (j + (tokL D).len + 1) e2
      have c1' : Chain t (j + (tokL D).len) m := by
        cases m with
        | nil => exact c1.elim
        | cons b m =>
          obtain ⟨q0, q1, q2⟩ := c1
          exact ⟨by rw [e1]; exact q0, by rw [e1]; exact q1, by rw [e1]; exact q2⟩
      refine ⟨(nx t j).sg :: m, ⟨by rw [ht]; exact herr, rfl, .inr ⟨by rw [ht]; exact hk', by rw [ht]; exact c1'⟩⟩, ?_⟩
      simp only [List.map_cons]
      rw [c2]
      congr 1
      unfold key
      rw [hkind, htext, hnum]
      have p1 : (nx t j).sg.text.data.toList = D.take (tokL D).len := by
        rw [ht]
        show (t.extract j (j + (tokL D).len)).data.toList = _
        rw [part_take, hj', List.take_left' (by rw [List.length_take]; omega)]
      rw [p1]
      have p2 : (nx t j).sg.kind = (tokL D).kind := by rw [ht]
      have p3 : (nx t j).sg.num = (tokL D).num := by rw [ht]
      rw [p2, p3]
end Tx
end Go.Proofs.YtbanidkfeibikaaDoor
