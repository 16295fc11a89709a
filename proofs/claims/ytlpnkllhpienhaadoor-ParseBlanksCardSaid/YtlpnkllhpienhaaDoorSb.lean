/-
  DERIVED. Plain: the signs of a text as the parser wants them; what a reading of a text comes to.
-/
import Derived.Test.YtlpnkllhpienhaaDoorAllW
import Derived.Test.YtlpnkllhpienhaaDoorQf
namespace Go.Proofs.YtlpnkllhpienhaaDoor
open Go.RowKit Go.Sort
namespace Tx
theorem tok_fin (s : ByteArray) (k : Nat) (he : (tok s k).err = 0) (hn : (tok s k).sg.kind = 0) : (tok s k).sg.text = ByteArray.empty := by
  unfold tok at he hn ⊢
  split at hn
  · rename_i h
    rw [dif_pos h] at he ⊢
    split at hn
    · rename_i hl
      rw [if_pos hl] at he ⊢
      unfold wordA at he hn ⊢
      split at he
      · exact absurd (show (3 : Int) = 0 from he) (by decide)
      · rename_i h16
        rw [if_neg h16] at hn
        exfalso
        have : (if isKey (s.extract k (wend wrd s k)) = true then (3 : Int) else 1) = 0 := hn
        split at this <;> exact absurd this (by decide)
    · rename_i hl
      rw [if_neg hl] at he ⊢
      split at hn
      · rename_i hd
        rw [if_pos hd] at he ⊢
        unfold numA at he hn ⊢
        split at he
        · exact absurd (show (3 : Int) = 0 from he) (by decide)
        · rename_i h9
          rw [if_neg h9] at hn
          exact absurd (show (2 : Int) = 0 from hn) (by decide)
      · rename_i hd
        rw [if_neg hd] at he ⊢
        unfold markA at he hn ⊢
        split at he
        · exact absurd (show (4 : Int) = 0 from he) (by decide)
        · rename_i hm
          rw [if_neg hm] at hn
          exact absurd (show (4 : Int) = 0 from hn) (by decide)
  · rename_i h
    rw [dif_neg h]; rfl
theorem ext_size (s : ByteArray) (a b : Nat) : (s.extract a b).size ≤ s.size := by
  rw [ByteArray.size_extract]; omega
theorem tok_text (s : ByteArray) (k : Nat) : (tok s k).sg.text.size ≤ s.size := by
  unfold tok
  split
  · split
    · unfold wordA; split
      · exact Nat.zero_le _
      · exact ext_size _ _ _
    · split
      · unfold numA; split
        · exact Nat.zero_le _
        · exact ext_size _ _ _
      · unfold markA; split
        · exact Nat.zero_le _
        · exact ext_size _ _ _
  · exact Nat.zero_le _
theorem go_shape : ∀ (f : Nat) (s : ByteArray) (i : Nat) (acc : List Sg), i ≤ s.size → s.size < i + f → (go f s i acc).2.2 = 0 →
    ∃ m x, (go f s i acc).1 = acc ++ (m ++ [x]) ∧ x.kind = 0 ∧ x.text = ByteArray.empty ∧ (∀ y ∈ m, y.kind ≠ 0) ∧ (∀ y ∈ m, y.text.size ≤ s.size) ∧ m.length + i ≤ s.size
  | 0, s, i, acc, hi, hf, _ => by omega
  | f + 1, s, i, acc, hi, hf, he => by
    unfold go at he ⊢
    split at he
    · rename_i h0
      rw [if_pos h0]
      split at he
      · rename_i hk
        rw [if_pos hk]
        exact ⟨[], (nx s i).sg, rfl, hk, tok_fin s _ h0 hk, by simp, by simp, by simpa using hi⟩
      · rename_i hk
        rw [if_neg hk]
        have hadv := nx_adv s i h0 hk
        obtain ⟨m, x, h1, h2, h3, h4, h5, h6⟩ := go_shape f s (nx s i).stop (acc ++ [(nx s i).sg]) (nx_stop_le s i hi) (by omega) he
        refine ⟨(nx s i).sg :: m, x, by rw [h1]; simp, h2, h3, ?_, ?_, by simp only [List.length_cons]; omega⟩
        · intro y hy
          rcases List.mem_cons.1 hy with rfl | hy
          · exact hk
          · exact h4 y hy
        · intro y hy
          rcases List.mem_cons.1 hy with rfl | hy
          · exact tok_text s _
          · exact h5 y hy
    · rename_i h0
      exact absurd he h0
theorem alls_shape (s : ByteArray) (he : (alls s).2.2 = 0) : ∃ m x, (alls s).1 = m ++ [x] ∧ x.kind = 0 ∧ x.text = ByteArray.empty ∧ (∀ y ∈ m, y.kind ≠ 0) ∧ (∀ y ∈ m, y.text.size ≤ s.size) ∧ m.length ≤ s.size ∧ s.size ≤ 65536 := by
  unfold alls at he ⊢
  split at he
  · exact absurd (show (3 : Int) = 0 from he) (by decide)
  · rename_i h
    rw [if_neg h]
    obtain ⟨m, x, h1, h2, h3, h4, h5, h6⟩ := go_shape (s.size + 1) s 0 [] (Nat.zero_le _) (by omega) he
    exact ⟨m, x, by rw [h1]; rfl, h2, h3, h4, h5, by omega, by omega⟩
end Tx
theorem alls_good (s : ByteArray) (he : (Tx.alls s).2.2 = 0) : Good (Tx.alls s).1 ∧ Tex (Tx.alls s).1 ∧ 0 < (Tx.alls s).1.length := by
  obtain ⟨m, x, h1, h2, h3, h4, h5, h6, h7⟩ := Tx.alls_shape s he
  rw [h1]
  have hat : ∀ (k : Nat) (y : Tx.Sg), (m ++ [x])[k]? = some y → (k < m.length ∧ y ∈ m) ∨ (k = m.length ∧ y = x) := by
    intro k y hk
    by_cases hl : k < m.length
    · rw [List.getElem?_append_left hl] at hk
      exact .inl ⟨hl, List.mem_of_getElem? hk⟩
    · rw [List.getElem?_append_right (by omega)] at hk
      have hkl : k = m.length := by
        have := (List.getElem?_eq_some_iff.1 hk).1
        simp at this; omega
      subst hkl
      rw [Nat.sub_self] at hk
      injection hk with hk
      exact .inr ⟨rfl, hk.symm⟩
  refine ⟨⟨fun k y hk => ?_, fun k y hk hl => ?_, by simp; omega⟩, fun k y hk => ?_, by simp⟩
  · rcases hat k y hk with ⟨hl, hm⟩ | ⟨rfl, rfl⟩
    · exact ⟨fun h0 => absurd h0 (h4 y hm), fun h0 => by simp at h0; omega⟩
    · exact ⟨fun _ => by simp, fun _ => h2⟩
  · rcases hat k y hk with ⟨hl', hm⟩ | ⟨rfl, rfl⟩
    · simp at hl; omega
    · exact h3
  · rcases hat k y hk with ⟨hl, hm⟩ | ⟨rfl, rfl⟩
    · have := h5 y hm; unfold maxLen; omega
    · rw [h3]; exact Nat.zero_le _
namespace Pr
def noPg : Pg := ⟨⟨none, 0, []⟩, ⟨none, 0, []⟩, ⟨none, 0, []⟩⟩
/-- What a reading of a text comes to: an error's number, or none, and the program without its places. -/
def rd (s : ByteArray) : Int × Pg :=
  if (Tx.alls s).2.2 = 0 then
    match whole ((Tx.alls s).1.map tk) (program ((Tx.alls s).1.map tk) (((Tx.alls s).1.map tk).length + 1) [] [] []) with
    | .error e => (e.1, noPg)
    | .ok a => (0, a)
  else ((Tx.alls s).2.2, noPg)
/-- The same of statements, with the place. -/
def rds (s : ByteArray) : Int × Int × SL :=
  if (Tx.alls s).2.2 = 0 then
    match whole ((Tx.alls s).1.map tk) (stmts ((Tx.alls s).1.map tk) (((Tx.alls s).1.map tk).length + 1)) with
    | .error e => (e.1, posAt (Tx.alls s).1 e.2, .nil)
    | .ok a => (0, 0, a)
  else ((Tx.alls s).2.2, (Tx.alls s).2.1, .nil)
end Pr
/-- The signs of a text, in a row of one's own. -/
theorem ps_start {w : World} {B : Nat} {v : Value} {l : List Tx.Sg} (h : w.ownsRow B 79 4 v l.length (l.flatMap Tx.cells)) (hl : 0 < l.length) :
    ∃ sb cap, v = .slice (some ⟨sb, 0, none⟩) l.length cap ∧ sb < w.heap.size ∧ B ≤ sb ∧ ∀ k x, l[k]? = some x → w.rangeAt sb (k * 4) [.int .i64 x.kind, .int .i64 x.pos, .string x.text, .int .i64 x.num] := by
  rcases h.2 with ⟨rfl, h0⟩ | ⟨g, cap, cur, rfl, hg, hr, _⟩
  · omega
  · refine ⟨g, cap, rfl, (Array.getElem?_eq_some_iff.1 hr).1, hg, fun k x hx j u hu => ?_⟩
    have hk := (List.getElem?_eq_some_iff.1 hx).1
    have hj : j < 4 := (List.getElem?_eq_some_iff.1 hu).1
    rw [h.cellAt (k * 4 + j) (by omega), Tx.cells_at l k hk j hj]
    obtain ⟨_, he⟩ := List.getElem?_eq_some_iff.1 hx
    rw [he]; exact hu
end Go.Proofs.YtlpnkllhpienhaaDoor
