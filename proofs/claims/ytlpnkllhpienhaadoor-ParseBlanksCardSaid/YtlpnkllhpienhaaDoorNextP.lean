/-
  DERIVED. The walk of 'the sign that comes next': the program's.
-/
import Derived.Test.YtlpnkllhpienhaaDoorRefMark
namespace Go.Proofs.YtlpnkllhpienhaaDoor
open Go.RowKit

theorem Tx.empty_of (s : ByteArray) (h : s.size = 0) : s = ByteArray.empty := ByteArray.size_eq_zero_iff.1 h

/-- A place held from nought to the text's end. -/
def held (s : ByteArray) (i : Int) : Nat := if i < 0 then 0 else if s.size < i then s.size else i.toNat
theorem held_le (s : ByteArray) (i : Int) : held s i ≤ s.size := by unfold held; split; omega; split <;> omega
theorem held_of (s : ByteArray) (k : Nat) (h : k ≤ s.size) : held s k = k := by unfold held; rw [if_neg (by omega), if_neg (by omega)]; rfl

theorem min_max (s : ByteArray) (i : Int) : min (max i 0) (s.size : Int) = (held s i : Nat) := by unfold held; split; omega; split <;> omega
theorem max_min (s : ByteArray) (i : Int) : max 0 (min i (s.size : Int)) = (held s i : Nat) := by unfold held; split; omega; split <;> omega
theorem skipHeld_any (s : ByteArray) (i : Int) (w : World) (hs : s.size ≤ 5000000) :
    Calls Tryd.prog 49 #[.string s, .int .i64 (min (max i 0) (s.size : Int))] w fun e w' => e = .returned (.int .i64 (Tx.skp s (held s i))) ∧ w = w' := by
  rw [min_max]; exact skip_any s _ w hs (held_le s i)
theorem blankHeld_any (s : ByteArray) (i : Int) (w : World) (hs : s.size ≤ 5000000) :
    Calls Tryd.prog 16 #[.string s, .int .i64 (max 0 (min i (s.size : Int)))] w fun e w' => e = .returned (.int .i64 (Tx.skp s (held s i))) ∧ w = w' := by
  rw [max_min]; exact blank_any s _ w hs (held_le s i)
theorem cut_none (s : ByteArray) (k : Nat) : s.extract k k = ByteArray.empty := by
  apply Tx.empty_of; rw [ByteArray.size_extract]; omega
theorem tok_end (s : ByteArray) (k : Nat) (h : ¬ k < s.size) : Tx.tok s k = Tx.An.bad k 0 := by unfold Tx.tok; rw [dif_neg h]
theorem tok_word (s : ByteArray) (k : Nat) (h : k < s.size) (hl : Tx.ltr (s[k].toNat : Int) = true) : Tx.tok s k = Tx.wordA s k := by unfold Tx.tok; rw [dif_pos h, hl]; rfl
theorem tok_num (s : ByteArray) (k : Nat) (h : k < s.size) (hl : Tx.ltr (s[k].toNat : Int) = false) (hd : Tx.dgt (s[k].toNat : Int) = true) : Tx.tok s k = Tx.numA s k := by unfold Tx.tok; rw [dif_pos h, hl, hd]; rfl
theorem tok_mark (s : ByteArray) (k : Nat) (h : k < s.size) (hl : Tx.ltr (s[k].toNat : Int) = false) (hd : Tx.dgt (s[k].toNat : Int) = false) : Tx.tok s k = Tx.markA s k := by unfold Tx.tok; rw [dif_pos h, hl, hd]; rfl

set_option maxHeartbeats 800000 in
theorem next_any (s : ByteArray) (i : Int) (w : World) (hs : s.size ≤ 5000000) (hg : Gl w) :
    Calls Tryd.prog 32 #[.string s, .int .i64 i] w fun e w' =>
      e = .returned (.tuple #[.agg #[.int .i64 (Tx.nx s (held s i)).sg.kind, .int .i64 (Tx.nx s (held s i)).sg.pos, .string (Tx.nx s (held s i)).sg.text, .int .i64 (Tx.nx s (held s i)).sg.num], .int .i64 (Tx.nx s (held s i)).stop, .int .i64 (Tx.nx s (held s i)).err]) ∧ Below w.heap.size w w' := by
  have hn : Tx.nx s (held s i) = Tx.tok s (Tx.skp s (held s i)) := rfl
  rw [hn]
  clear hn
  have hle := Tx.skp_le s (held s i) (held_le s i)
  have hskip := fun w => skipHeld_any s i w hs
  generalize Tx.skp s (held s i) = k at hle hskip ⊢
  have HS := Lib.hid hskip
  clear hskip
  by_cases hlt : k < s.size
  · have hz : ((k : Int) == (s.size : Int)) = false := by rw [Bool.eq_false_iff]; intro e; rw [beq_iff_eq] at e; omega
    cases hl : Tx.ltr (s[k].toNat : Int)
    · cases hd : Tx.dgt (s[k].toNat : Int)
      · rw [tok_mark s k hlt hl hd]
        go_enter Tryd.func32, Tryd.ntmps32
        go_wp2_with (first | (go_at_call 49; refine (HS.out _).mono ?_; rintro e w' ⟨rfl, rfl⟩) | (go_at_call 51; refine (isLetter_any _ _).mono ?_; rintro e w' ⟨rfl, rfl⟩) | (go_at_call 53; refine (isDigit_any _ _).mono ?_; rintro e w' ⟨rfl, rfl⟩) | (go_at_call 55; refine (mark_any s k _ hs hlt (hg.alloc _)).mono ?_; rintro e w1 ⟨rfl, hb⟩; obtain ⟨hc, hf⟩ := bcell hb; have hz : w.heap.size < w1.heap.size := (by have := hb.size; simp at this; omega); have HB := Lib.hid hb; clear hb))
        exact bodyPost_ret (v := .tuple #[.agg #[.int .i64 (Tx.markA s k).sg.kind, .int .i64 (Tx.markA s k).sg.pos, .string (Tx.markA s k).sg.text, .int .i64 (Tx.markA s k).sg.num], .int .i64 (Tx.markA s k).stop, .int .i64 (Tx.markA s k).err]) (by simp [results, Tryd.results32, go_sem, hc]) rfl ⟨rfl, below4 HB.out _ _ _ _⟩
      · rw [tok_num s k hlt hl hd]
        go_enter Tryd.func32, Tryd.ntmps32
        go_wp2_with (first | (go_at_call 49; refine (HS.out _).mono ?_; rintro e w' ⟨rfl, rfl⟩) | (go_at_call 51; refine (isLetter_any _ _).mono ?_; rintro e w' ⟨rfl, rfl⟩) | (go_at_call 53; refine (isDigit_any _ _).mono ?_; rintro e w' ⟨rfl, rfl⟩) | (go_at_call 54; refine (number_any s k _ hs hle).mono ?_; rintro e w1 ⟨rfl, hb⟩; obtain ⟨hc, hf⟩ := bcell hb; have hz : w.heap.size < w1.heap.size := (by have := hb.size; simp at this; omega); have HB := Lib.hid hb; clear hb))
        exact bodyPost_ret (v := .tuple #[.agg #[.int .i64 (Tx.numA s k).sg.kind, .int .i64 (Tx.numA s k).sg.pos, .string (Tx.numA s k).sg.text, .int .i64 (Tx.numA s k).sg.num], .int .i64 (Tx.numA s k).stop, .int .i64 (Tx.numA s k).err]) (by simp [results, Tryd.results32, go_sem, hc]) rfl ⟨rfl, below4 HB.out _ _ _ _⟩
    · rw [tok_word s k hlt hl]
      go_enter Tryd.func32, Tryd.ntmps32
      go_wp2_with (first | (go_at_call 49; refine (HS.out _).mono ?_; rintro e w' ⟨rfl, rfl⟩) | (go_at_call 51; refine (isLetter_any _ _).mono ?_; rintro e w' ⟨rfl, rfl⟩) | (go_at_call 52; refine (word_any s k _ hs hle (hg.alloc _)).mono ?_; rintro e w1 ⟨rfl, hb⟩; obtain ⟨hc, hf⟩ := bcell hb; have hz : w.heap.size < w1.heap.size := (by have := hb.size; simp at this; omega); have HB := Lib.hid hb; clear hb))
      exact bodyPost_ret (v := .tuple #[.agg #[.int .i64 (Tx.wordA s k).sg.kind, .int .i64 (Tx.wordA s k).sg.pos, .string (Tx.wordA s k).sg.text, .int .i64 (Tx.wordA s k).sg.num], .int .i64 (Tx.wordA s k).stop, .int .i64 (Tx.wordA s k).err]) (by simp [results, Tryd.results32, go_sem, hc]) rfl ⟨rfl, below4 HB.out _ _ _ _⟩
  · rw [tok_end s k hlt]
    unfold Tx.An.bad
    obtain rfl : k = s.size := by omega
    have he := Lib.hid (cut_none s s.size)
    clear hlt hle
    go_enter Tryd.func32, Tryd.ntmps32
    go_wp2_with (first | (go_at_call 49; refine (HS.out _).mono ?_; rintro e w' ⟨rfl, rfl⟩) | (go_at_call 50; refine (right_any 0 s s.size s.size _ (Nat.le_refl _) (Nat.le_refl _)).mono ?_; rintro e w1 ⟨rfl, hb⟩; obtain ⟨hc, hf⟩ := bcell hb; have hz : w.heap.size < w1.heap.size := (by have := hb.size; simp at this; omega); have HB := Lib.hid hb; clear hb))
    exact bodyPost_ret (v := .tuple #[.agg #[.int .i64 0, .int .i64 (s.size : Nat), .string (s.extract s.size s.size), .int .i64 0], .int .i64 (s.size : Nat), .int .i64 0]) (by simp [results, Tryd.results32, go_sem, hc]) rfl ⟨by rw [he.out], below4 HB.out _ _ _ _⟩

end Go.Proofs.YtlpnkllhpienhaaDoor
