/-
  DERIVED. The page's example.
-/
import Derived.Test.YtjkgkigfmcegoaaFd
namespace Go.Proofs.Ytjkgkigfmcegoaa
open Go.RowKit Go.Sort Go.Maps

def sNode : ByteArray := ⟨#[110, 111, 100, 101]⟩
def sNext : ByteArray := ⟨#[110, 101, 120, 116]⟩
/-- The page's program, its lists in blocks a and b. -/
def exPg (a b : Nat) : Pg := ⟨⟨some ⟨b, 0, none⟩, 1, [⟨sNode, 0, ⟨some ⟨a, 0, none⟩, 1, [⟨sNode, sNext, 0⟩]⟩⟩]⟩, ⟨none, 0, []⟩, ⟨none, 0, []⟩⟩
theorem ex_go (a b : Nat) : buildGo (exPg a b) = (0, 0) := by kernel_rfl
theorem ex_ends (a b : Nat) : endsP (exPg a b) = [(0, 0)] := by kernel_rfl
theorem ex_num (a b : Nat) : numOf ((allPairs (exPg a b)).map memb) ((0 : Int), sNext) = 0 := by kernel_rfl
theorem ex_in (a b : Nat) : isIn ((allPairs (exPg a b)).map memb) ((0 : Int), sNext) = true := by kernel_rfl
theorem ex_len (a b : Nat) : (sNames (exPg a b).structs.l).length = 1 := by kernel_rfl
theorem node_ok : sNode.size ≤ maxLen := by unfold maxLen; decide
theorem next_ok : sNext.size ≤ maxLen := by unfold maxLen; decide
theorem ex_lies (w : World) (a b : Nat) (h1 : Bk w a 46 #[.string sNode, .string sNext, .int .i64 0]) (h2 : Bk w b 44 #[.string sNode, .int .i64 0, .slice (some ⟨a, 0, none⟩) 1 1]) : pgLies w (exPg a b) := by
  refine ⟨⟨(show 1 ≤ 1048576 by decide), .inr ⟨b, 0, rfl, ?_⟩⟩, ⟨(show 0 ≤ 1048576 by decide), .inl rfl⟩, ⟨(show 0 ≤ 1048576 by decide), .inl rfl⟩⟩
  intro k x hk
  match k, hk with
  | 0, hk =>
    simp only [exPg, List.getElem?_cons_zero, Option.some.injEq] at hk
    subst hk
    refine ⟨fun j u hu => ?_, ⟨(show 1 ≤ 1048576 by decide), .inr ⟨a, 0, rfl, ?_⟩⟩, node_ok⟩
    · rw [Nat.zero_mul, Nat.add_zero, Nat.zero_add]
      exact (h2.cell j).trans (by rw [← Array.getElem?_toList]; exact hu)
    · intro k x hk
      match k, hk with
      | 0, hk =>
        simp only [List.getElem?_cons_zero, Option.some.injEq] at hk
        subst hk
        refine ⟨fun j u hu => ?_, node_ok, next_ok⟩
        rw [Nat.zero_mul, Nat.add_zero, Nat.zero_add]
        exact (h1.cell j).trans (by rw [← Array.getElem?_toList]; exact hu)
      | k + 1, hk => simp at hk
  | k + 1, hk => simp [exPg] at hk

set_option maxHeartbeats 3200000 in
set_option maxRecDepth 100000 in
theorem lives_any (w : World) : Calls Try.prog 7 #[] w fun en w' => en = .returned (.bool true) ∧ Below w.heap.size w w' := by
  go_enter Try.func7, Try.ntmps7
  go_wp2_with fail
  have HB0 : Hid (Below w.heap.size w (((w.alloc (.cells #[.string ⟨#[110, 111, 100, 101]⟩, .string ⟨#[110, 101, 120, 116]⟩, .int .i64 0] 46)).alloc (.cells #[.string ⟨#[110, 111, 100, 101]⟩, .int .i64 0, .slice (some ⟨w.heap.size, 0, none⟩) 1 1] 44)).alloc (.cells #[.slice (some ⟨w.heap.size + 1, 0, none⟩) 1 1, .slice none 0 0, .slice none 0 0] 26))) := Lib.hid ((((Below.refl _ _).alloc (Nat.le_refl _) _).alloc (by simp) _).alloc (by simp; omega) _)
  have HC := Lib.hid (build_any (exPg w.heap.size (w.heap.size + 1)) (((w.alloc (.cells #[.string ⟨#[110, 111, 100, 101]⟩, .string ⟨#[110, 101, 120, 116]⟩, .int .i64 0] 46)).alloc (.cells #[.string ⟨#[110, 111, 100, 101]⟩, .int .i64 0, .slice (some ⟨w.heap.size, 0, none⟩) 1 1] 44)).alloc (.cells #[.slice (some ⟨w.heap.size + 1, 0, none⟩) 1 1, .slice none 0 0, .slice none 0 0] 26)) (ex_lies _ _ _
    ((Below.heap_alloc _ _ _ (by simp only [World.size_alloc]; omega)).trans (heap_alloc2_old w _ _)) ((Below.heap_alloc _ _ _ (by simp only [World.size_alloc]; omega)).trans (heap_alloc2_new w _ _))))
  generalize (((w.alloc (.cells #[.string ⟨#[110, 111, 100, 101]⟩, .string ⟨#[110, 101, 120, 116]⟩, .int .i64 0] 46)).alloc (.cells #[.string ⟨#[110, 111, 100, 101]⟩, .int .i64 0, .slice (some ⟨w.heap.size, 0, none⟩) 1 1] 44)).alloc (.cells #[.slice (some ⟨w.heap.size + 1, 0, none⟩) 1 1, .slice none 0 0, .slice none 0 0] 26)) = wA at HB0 HC ⊢
  refine HC.out.mono ?_; rintro en w1 ⟨t, rfl, h1, _, hb1⟩
  obtain ⟨M, rfl, hT, _⟩ := h1 (by rw [ex_go])
  have HT := Lib.hid hT
  have HB1 : Hid (Below w.heap.size w w1) := Lib.hid (HB0.out.trans (hb1.mono HB0.out.size))
  clear h1 hb1 hT
  rw [ex_go]
  have c1 : w1.cell? ⟨M + 4, 1, none⟩ = some (.map (some (M + 1))) := by
    obtain ⟨e, v, _, _, h, _⟩ := HT.out.tab
    exact h.cell 1
  have HF := Lib.hid (field_any 0 sNext (M + 4) (M + 1) _ w1 c1 HT.out.rf (by decide) next_ok)
  rw [ex_num, ex_in] at HF
  unfold tptr
  clear c1
  go_wp2_with fail
  refine HF.out.mono ?_; rintro en w2 ⟨rfl, hb2⟩
  have HT2 := Lib.hid (HT.out.keep hb2)
  have HB2 : Hid (Below w.heap.size w w2) := Lib.hid (HB1.out.trans (hb2.mono HB1.out.size))
  have HFS := Lib.hid (fields_any _ M w2 HT2.out)
  unfold tptr at HFS
  clear hb2
  go_wp2_with fail
  refine HFS.out.mono ?_; rintro en w3 ⟨v, rfl, ho3, hb3⟩
  rw [ex_ends] at ho3
  obtain ⟨g, c, rfl, _⟩ := own_cells (k := 0) (x := (0, 0)) ho3 rfl
  have HT3 := Lib.hid (HT2.out.keep hb3)
  have HB3 : Hid (Below w.heap.size w w3) := Lib.hid (HB2.out.trans (hb3.mono HB2.out.size))
  have c0 : w3.cell? ⟨M + 4, 0, none⟩ = some (.map (some M)) := by
    obtain ⟨e, v, _, _, h, _⟩ := HT3.out.tab
    exact h.cell 0
  have HSS := Lib.hid (structs_any (M + 4) M _ w3 c0 HT3.out.rs)
  rw [ex_len] at HSS
  clear hb3 ho3 c0
  go_wp2_with fail
  refine HSS.out.mono ?_; rintro en w4 ⟨rfl, rfl⟩
  go_wp2_with fail
  go_ret
  exact ⟨rfl, HB3.out⟩
end Go.Proofs.Ytjkgkigfmcegoaa
