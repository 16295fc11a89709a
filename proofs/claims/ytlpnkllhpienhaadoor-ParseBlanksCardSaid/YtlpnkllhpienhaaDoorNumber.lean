/-
  DERIVED. The walk of a number's answer.
-/
import Derived.Test.YtlpnkllhpienhaaDoorRight
namespace Go.Proofs.YtlpnkllhpienhaaDoor
open Go.RowKit

theorem run_take (p : Int → Bool) : ∀ l : List UInt8, ∀ b ∈ l.take (Tx.run p l), p (b.toNat : Int) = true
  | [], b, h => by simp at h
  | a :: l, b, h => by
    by_cases ha : p (a.toNat : Int) = true
    · simp only [Tx.run, ha, if_true, List.take_succ_cons, List.mem_cons] at h
      rcases h with rfl | h
      · exact ha
      · exact run_take p l b h
    · simp only [Tx.run, ha, Bool.false_eq_true, if_false, List.take_zero, List.not_mem_nil] at h
theorem wend_part (p : Int → Bool) (s : ByteArray) (i : Nat) : (s.extract i (Tx.wend p s i)).data.toList = (s.data.toList.drop i).take (Tx.run p (s.data.toList.drop i)) := by
  rw [part_list]; unfold Tx.wend; rw [show i + Tx.run p (s.data.toList.drop i) - i = Tx.run p (s.data.toList.drop i) by omega]
theorem digs_part (s : ByteArray) (i : Nat) : digs (s.extract i (Tx.wend Tx.dgt s i)).data.toList := by
  rw [wend_part]; exact run_take Tx.dgt _
theorem part_size (s : ByteArray) (a b : Nat) (hb : b ≤ s.size) : (s.extract a b).size = b - a := by
  rw [ByteArray.size_extract]; omega

theorem numValue_any (s : ByteArray) (i : Nat) (w : World) (hi : i ≤ s.size) (h9 : ¬ 9 < Tx.wend Tx.dgt s i - i) :
    Calls Tryd.prog 71 #[.string (s.extract i (Tx.wend Tx.dgt s i))] w fun e w' => e = .returned (.int .i64 (Tx.val (s.extract i (Tx.wend Tx.dgt s i)).data.toList)) ∧ w = w' :=
  lvalue_any _ _ (digs_part s i) (by rw [part_size _ _ _ (Tx.wend_le _ s i hi)]; omega)

set_option maxHeartbeats 800000 in
theorem number_any (s : ByteArray) (i : Nat) (w : World) (hs : s.size ≤ 5000000) (hi : i ≤ s.size) :
    Calls Tryd.prog 54 #[.string s, .int .i64 i] w fun e w' =>
      e = .returned (.tuple #[.agg #[.int .i64 (Tx.numA s i).sg.kind, .int .i64 (Tx.numA s i).sg.pos, .string (Tx.numA s i).sg.text, .int .i64 (Tx.numA s i).sg.num], .int .i64 (Tx.numA s i).stop, .int .i64 (Tx.numA s i).err]) ∧ Below w.heap.size w w' := by
  have hge := Tx.wend_ge Tx.dgt s i
  have hle := Tx.wend_le Tx.dgt s i hi
  by_cases h9 : 9 < Tx.wend Tx.dgt s i - i
  · rw [show Tx.numA s i = Tx.An.bad i 3 by unfold Tx.numA; rw [if_pos h9]]
    unfold Tx.An.bad
    go_enter Tryd.func54, Tryd.ntmps54
    go_wp2_with fail
    refine (digitsEnd_any _ _ _ hs hi).mono ?_; rintro e w' ⟨rfl, rfl⟩
    go_wp2_with fail
    refine (wrong_any _ _ _).mono ?_; rintro e w1 ⟨rfl, hb⟩
    obtain ⟨hc, hf⟩ := bcell hb
    have hz : w.heap.size < w1.heap.size := by have := hb.size; simp at this; omega
    have HB := Lib.hid hb
    clear hb
    go_wp2_with fail
    exact bodyPost_ret (v := .tuple #[.agg #[.int .i64 0, .int .i64 (i : Nat), .string ByteArray.empty, .int .i64 0], .int .i64 (i : Nat), .int .i64 3]) (by simp [results, Tryd.results54, go_sem, hc]) rfl ⟨rfl, below4 HB.out _ _ _ _⟩
  · have H9 := Lib.hid h9
    have h9' : ¬ (Tx.wend Tx.dgt s i : Int) - i > 9 := by omega
    rw [show Tx.numA s i = Tx.An.good s 2 i (Tx.wend Tx.dgt s i) (Tx.val (s.extract i (Tx.wend Tx.dgt s i)).data.toList) by unfold Tx.numA; rw [if_neg h9]]
    unfold Tx.An.good
    clear h9
    generalize hv : Tx.val (s.extract i (Tx.wend Tx.dgt s i)).data.toList = v
    have hval : ∀ w : World, Calls Tryd.prog 71 #[.string (s.extract i (Tx.wend Tx.dgt s i))] w fun e w' => e = .returned (.int .i64 v) ∧ w = w' := by
      intro w; rw [← hv]; exact numValue_any s i w hi H9.out
    clear hv
    have HV := Lib.hid hval
    clear hval
    go_enter Tryd.func54, Tryd.ntmps54
    go_wp2_with fail
    refine (digitsEnd_any _ _ _ hs hi).mono ?_; rintro e w' ⟨rfl, rfl⟩
    go_wp2_with fail
    refine (right_any _ _ _ _ _ hge hle).mono ?_; rintro e w1 ⟨rfl, hb⟩
    obtain ⟨hc, hf⟩ := bcell hb
    have hz : w.heap.size < w1.heap.size := by have := hb.size; simp at this; omega
    have HB := Lib.hid hb
    clear hb
    go_wp2_with fail
    refine (HV.out _).mono ?_; rintro e w' ⟨rfl, rfl⟩
    go_wp2_with fail
    exact bodyPost_ret (v := .tuple #[.agg #[.int .i64 2, .int .i64 (i : Nat), .string (s.extract i (Tx.wend Tx.dgt s i)), .int .i64 v], .int .i64 (Tx.wend Tx.dgt s i : Nat), .int .i64 0]) (by simp [results, Tryd.results54, go_sem, hc, hz]) rfl ⟨rfl, (below4 HB.out _ _ _ _).alloc (by simp; omega) _⟩

end Go.Proofs.YtlpnkllhpienhaaDoor
