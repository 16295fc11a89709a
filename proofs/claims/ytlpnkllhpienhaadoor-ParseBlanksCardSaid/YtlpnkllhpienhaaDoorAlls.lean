/-
  DERIVED. Plain: all signs of a text.
-/
import Derived.Test.YtlpnkllhpienhaaDoorNextR
namespace Go.Proofs.YtlpnkllhpienhaaDoor
namespace Tx

theorem wend_more (p : Int → Bool) (s : ByteArray) (k : Nat) (h : k < s.size) (hp : p (s[k].toNat : Int) = true) : k + 1 ≤ wend p s k := by
  rw [← wend_in p s k h hp]; exact wend_ge p s (k + 1)

theorem tok_stop_le (s : ByteArray) (k : Nat) (hk : k ≤ s.size) : (tok s k).stop ≤ s.size := by
  unfold tok
  split
  · rename_i h
    split
    · unfold wordA; split
      · exact hk
      · exact wend_le wrd s k hk
    · split
      · unfold numA; split
        · exact hk
        · exact wend_le dgt s k hk
      · unfold markA; split
        · exact hk
        · exact mrk_le s k h
  · exact hk

theorem tok_adv (s : ByteArray) (k : Nat) (he : (tok s k).err = 0) (hn : (tok s k).sg.kind ≠ 0) : k < (tok s k).stop := by
  unfold tok at he hn ⊢
  split at hn
  · rename_i h
    rw [dif_pos h] at he ⊢
    split at hn
    · rename_i hl
      rw [if_pos hl] at he ⊢
      unfold wordA at he ⊢
      split at he
      · exact absurd (show (3 : Int) = 0 from he) (by decide)
      · rename_i h16
        rw [if_neg h16]
        exact wend_more wrd s k h (by unfold wrd; rw [hl]; rfl)
    · rename_i hl
      rw [if_neg hl] at he ⊢
      split at hn
      · rename_i hd
        rw [if_pos hd] at he ⊢
        unfold numA at he ⊢
        split at he
        · exact absurd (show (3 : Int) = 0 from he) (by decide)
        · rename_i h9
          rw [if_neg h9]
          exact wend_more dgt s k h hd
      · rename_i hd
        rw [if_neg hd] at he ⊢
        unfold markA at he ⊢
        split at he
        · exact absurd (show (4 : Int) = 0 from he) (by decide)
        · rename_i hm
          rw [if_neg hm]
          show k < k + mrk s k
          omega
  · exact absurd rfl hn

theorem nx_stop_le (s : ByteArray) (i : Nat) (hi : i ≤ s.size) : (nx s i).stop ≤ s.size := tok_stop_le s _ (skp_le s i hi)
theorem nx_adv (s : ByteArray) (i : Nat) (he : (nx s i).err = 0) (hn : (nx s i).sg.kind ≠ 0) : i < (nx s i).stop :=
  Nat.lt_of_le_of_lt (skp_ge s i) (tok_adv s _ he hn)

/-- All signs from i on, behind those that were read. -/
def go : Nat → ByteArray → Nat → List Sg → List Sg × Nat × Int
  | 0, _, _, acc => (acc, 0, 0)
  | f + 1, s, i, acc => if (nx s i).err = 0 then (if (nx s i).sg.kind = 0 then (acc ++ [(nx s i).sg], 0, 0) else go f s (nx s i).stop (acc ++ [(nx s i).sg])) else ([], (nx s i).stop, (nx s i).err)
def alls (s : ByteArray) : List Sg × Nat × Int := if 65536 < s.size then ([], 0, 3) else go (s.size + 1) s 0 []

/-- A sign's cells. -/
def cells (g : Sg) : List Value := [.int .i64 g.kind, .int .i64 g.pos, .string g.text, .int .i64 g.num]
theorem cells_len (l : List Sg) : (l.flatMap cells).length = l.length * 4 := by
  induction l with
  | nil => rfl
  | cons a l ih => rw [List.flatMap_cons, List.length_append, ih]; simp [cells]; omega
theorem cells_snoc (l : List Sg) (a : Sg) : (l ++ [a]).flatMap cells = l.flatMap cells ++ cells a := by
  rw [List.flatMap_append]; simp
theorem cells_at (l : List Sg) : ∀ (k : Nat) (hk : k < l.length) (j : Nat), j < 4 → (l.flatMap cells)[k * 4 + j]? = (cells l[k])[j]? := by
  induction l with
  | nil => intro k hk; simp at hk
  | cons a l ih =>
    intro k hk j hj
    rw [List.flatMap_cons]
    have h4 : (cells a).length = 4 := rfl
    match k with
    | 0 => rw [List.getElem?_append_left (by omega)]; simp
    | k + 1 =>
      rw [List.getElem?_append_right (by omega), h4, show (k + 1) * 4 + j - 4 = k * 4 + j by omega, ih k (by simpa using hk) j hj]
      simp
end Tx
end Go.Proofs.YtlpnkllhpienhaaDoor
