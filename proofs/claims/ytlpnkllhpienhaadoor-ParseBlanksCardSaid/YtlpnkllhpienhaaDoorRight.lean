/-
  DERIVED. The walks of the answers: a sign, an error; a word, a number, a Mark.
-/
import Derived.Test.YtlpnkllhpienhaaDoorBlank
namespace Go.Proofs.YtlpnkllhpienhaaDoor
open Go.RowKit

set_option maxHeartbeats 400000 in
theorem right_any (kd : Int) (s : ByteArray) (a b : Nat) (w : World) (hab : a ≤ b) (hb : b ≤ s.size) :
    Calls Tryd.prog 50 #[.int .i64 kd, .string s, .int .i64 a, .int .i64 b] w fun e w' =>
      e = .returned (.tuple #[.agg #[.int .i64 kd, .int .i64 a, .string (s.extract a b), .int .i64 0], .int .i64 b, .int .i64 0]) ∧ Below w.heap.size w w' := by
  go_enter Tryd.func50, Tryd.ntmps50
  go_wp2
  exact bodyPost_ret (v := .tuple #[.agg #[.int .i64 kd, .int .i64 a, .string (s.extract a b), .int .i64 0], .int .i64 b, .int .i64 0]) (by simp [results, Tryd.results50, go_sem]) rfl ⟨rfl, (Below.refl _ _).alloc (Nat.le_refl _) _⟩

theorem empty_mk : ByteArray.mk #[] = ByteArray.empty := rfl
set_option maxHeartbeats 400000 in
theorem wrong_any (a : Int) (er : Int) (w : World) :
    Calls Tryd.prog 68 #[.int .i64 a, .int .i64 er] w fun e w' =>
      e = .returned (.tuple #[.agg #[.int .i64 0, .int .i64 a, .string ByteArray.empty, .int .i64 0], .int .i64 a, .int .i64 er]) ∧ Below w.heap.size w w' := by
  go_enter Tryd.func68, Tryd.ntmps68
  go_wp2
  exact bodyPost_ret (v := .tuple #[.agg #[.int .i64 0, .int .i64 a, .string ByteArray.empty, .int .i64 0], .int .i64 a, .int .i64 er]) (by simp [results, Tryd.results68, go_sem]; rfl) rfl ⟨rfl, (Below.refl _ _).alloc (Nat.le_refl _) _⟩

theorem bcell {W w1 : World} (hb : Below W.heap.size W w1) : (∀ b o, b < W.heap.size → w1.cell? ⟨b, o, none⟩ = W.cell? ⟨b, o, none⟩) ∧ (∀ b o, b < W.heap.size → w1.frozen? ⟨b, o, none⟩ = W.frozen? ⟨b, o, none⟩) :=
  ⟨fun b o h => hb.cell (p := ⟨b, o, none⟩) h, fun b o h => hb.frozen (p := ⟨b, o, none⟩) h⟩

theorem below4 {w w1 : World} {o : Obj} (hb : Below (w.alloc o).heap.size (w.alloc o) w1) (x0 x1 x2 x3 : Value) :
    Below w.heap.size w ((((w1.setCell ⟨w.heap.size, 0, none⟩ x0).setCell ⟨w.heap.size, 1, none⟩ x1).setCell ⟨w.heap.size, 2, none⟩ x2).setCell ⟨w.heap.size, 3, none⟩ x3) :=
  (((((((Below.refl _ _).alloc (Nat.le_refl _) _).trans (hb.mono (by simp))).setCell (Nat.le_refl _) _).setCell (Nat.le_refl _) _).setCell (Nat.le_refl _) _).setCell (Nat.le_refl _) _)
theorem Gl.alloc {w : World} (h : Gl w) (o : Obj) : Gl (w.alloc o) := h.below ((Below.refl w.heap.size w).alloc (Nat.le_refl _) o) h.two

set_option maxHeartbeats 800000 in
theorem word_any (s : ByteArray) (i : Nat) (w : World) (hs : s.size ≤ 5000000) (hi : i ≤ s.size) (hg : Gl w) :
    Calls Tryd.prog 52 #[.string s, .int .i64 i] w fun e w' =>
      e = .returned (.tuple #[.agg #[.int .i64 (Tx.wordA s i).sg.kind, .int .i64 (Tx.wordA s i).sg.pos, .string (Tx.wordA s i).sg.text, .int .i64 (Tx.wordA s i).sg.num], .int .i64 (Tx.wordA s i).stop, .int .i64 (Tx.wordA s i).err]) ∧ Below w.heap.size w w' := by
  have hge := Tx.wend_ge Tx.wrd s i
  have hle := Tx.wend_le Tx.wrd s i hi
  by_cases h16 : 16 < Tx.wend Tx.wrd s i - i
  · rw [show Tx.wordA s i = Tx.An.bad i 3 by unfold Tx.wordA; rw [if_pos h16]]
    unfold Tx.An.bad
    go_enter Tryd.func52, Tryd.ntmps52
    go_wp2_with fail
    refine (wordEnd_any _ _ _ hs hi).mono ?_; rintro e w' ⟨rfl, rfl⟩
    go_wp2_with fail
    refine (wrong_any _ _ _).mono ?_; rintro e w1 ⟨rfl, hb⟩
    obtain ⟨hc, hf⟩ := bcell hb
    have hz : w.heap.size < w1.heap.size := by have := hb.size; simp at this; omega
    have HB := Lib.hid hb
    clear hb
    go_wp2_with fail
    exact bodyPost_ret (v := .tuple #[.agg #[.int .i64 0, .int .i64 (i : Nat), .string ByteArray.empty, .int .i64 0], .int .i64 (i : Nat), .int .i64 3]) (by simp [results, Tryd.results52, go_sem, hc]) rfl ⟨rfl, below4 HB.out _ _ _ _⟩
  · have h16' : ¬ (Tx.wend Tx.wrd s i : Int) - i > 16 := by omega
    clear h16
    have H16 := Lib.hid h16'
    cases hk : Tx.isKey (s.extract i (Tx.wend Tx.wrd s i))
    · rw [show Tx.wordA s i = Tx.An.good s 1 i (Tx.wend Tx.wrd s i) 0 by unfold Tx.wordA; rw [if_neg (by omega), hk]; rfl]
      unfold Tx.An.good
      go_enter Tryd.func52, Tryd.ntmps52
      go_wp2_with fail
      refine (wordEnd_any _ _ _ hs hi).mono ?_; rintro e w' ⟨rfl, rfl⟩
      go_wp2_with fail
      refine (isKeyLex_any _ _ (hg.alloc _)).mono ?_; rintro e w' ⟨rfl, rfl⟩
      go_wp2_with fail
      refine (right_any _ _ _ _ _ hge hle).mono ?_; rintro e w1 ⟨rfl, hb⟩
      obtain ⟨hc, hf⟩ := bcell hb
      have hz : w.heap.size < w1.heap.size := by have := hb.size; simp at this; omega
      have HB := Lib.hid hb
      clear hb
      go_wp2_with fail
      exact bodyPost_ret (v := .tuple #[.agg #[.int .i64 1, .int .i64 (i : Nat), .string (s.extract i (Tx.wend Tx.wrd s i)), .int .i64 0], .int .i64 (Tx.wend Tx.wrd s i : Nat), .int .i64 0]) (by simp [results, Tryd.results52, go_sem, hc]) rfl ⟨rfl, below4 HB.out _ _ _ _⟩
    · rw [show Tx.wordA s i = Tx.An.good s 3 i (Tx.wend Tx.wrd s i) 0 by unfold Tx.wordA; rw [if_neg (by omega), hk]; rfl]
      unfold Tx.An.good
      go_enter Tryd.func52, Tryd.ntmps52
      go_wp2_with fail
      refine (wordEnd_any _ _ _ hs hi).mono ?_; rintro e w' ⟨rfl, rfl⟩
      go_wp2_with fail
      refine (isKeyLex_any _ _ (hg.alloc _)).mono ?_; rintro e w' ⟨rfl, rfl⟩
      go_wp2_with fail
      refine (right_any _ _ _ _ _ hge hle).mono ?_; rintro e w1 ⟨rfl, hb⟩
      obtain ⟨hc, hf⟩ := bcell hb
      have hz : w.heap.size < w1.heap.size := by have := hb.size; simp at this; omega
      have HB := Lib.hid hb
      clear hb
      go_wp2_with fail
      exact bodyPost_ret (v := .tuple #[.agg #[.int .i64 3, .int .i64 (i : Nat), .string (s.extract i (Tx.wend Tx.wrd s i)), .int .i64 0], .int .i64 (Tx.wend Tx.wrd s i : Nat), .int .i64 0]) (by simp [results, Tryd.results52, go_sem, hc]) rfl ⟨rfl, below4 HB.out _ _ _ _⟩

end Go.Proofs.YtlpnkllhpienhaaDoor
