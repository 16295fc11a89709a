/-
  DERIVED. The page's example holds; whether a sign is the document's.
-/
import Derived.Test.YtbanidkfeibikaaDoorAllW
import Derived.Lib.SmallJoins
namespace Go.Proofs.YtbanidkfeibikaaDoor
open Go.RowKit

def exS : ByteArray := ⟨#[120, 45, 62, 110, 32, 61, 32, 121, 59]⟩
theorem ex_len : (Tx.alls exS).1.length = 7 := by kernel_rfl
theorem ex_pos : (Tx.alls exS).2.1 = 0 := by kernel_rfl
theorem ex_err : (Tx.alls exS).2.2 = 0 := by kernel_rfl
theorem ex_6 : ((Tx.alls exS).1.flatMap Tx.cells)[6]? = some (.string ⟨#[45, 62]⟩) := by kernel_rfl
theorem ex_20 : ((Tx.alls exS).1.flatMap Tx.cells)[20]? = some (.int .i64 4) := by kernel_rfl
theorem ex_24 : ((Tx.alls exS).1.flatMap Tx.cells)[24]? = some (.int .i64 0) := by kernel_rfl

def ExPost (w : World) (e : Ending) (w' : World) : Prop :=
  ∃ g cap, e = .returned (.tuple #[.slice (some ⟨g, 0, none⟩) 7 cap, .int .i64 0, .int .i64 0]) ∧ w'.cell? ⟨g, 6, none⟩ = some (.string ⟨#[45, 62]⟩) ∧ w'.cell? ⟨g, 20, none⟩ = some (.int .i64 4) ∧ w'.cell? ⟨g, 24, none⟩ = some (.int .i64 0) ∧ Below w.heap.size w w'
theorem ex_any (w : World) (hg : Gl w) : Calls Tryd.prog 8 #[.string ⟨#[120, 45, 62, 110, 32, 61, 32, 121, 59]⟩] w (ExPost w) := by
  refine (lexAll_any exS w (by decide) hg).mono ?_
  rintro e w' ⟨v, rfl, hown, hb⟩
  rw [ex_len] at hown
  obtain ⟨g, cap, rfl⟩ := Go.Joins.ownsRow_form hown (by decide)
  refine ⟨g, cap, ?_, ?_, ?_, ?_, hb⟩
  · rw [ex_pos, ex_err]; rfl
  · rw [hown.cellAt 6 (by decide)]; exact ex_6
  · rw [hown.cellAt 20 (by decide)]; exact ex_20
  · rw [hown.cellAt 24 (by decide)]; exact ex_24

set_option maxHeartbeats 400000 in
theorem lives_any (w : World) (hg : Gl w) :
    Calls Tryd.prog 7 #[] w fun e w' => e = .returned (.bool true) ∧ Below w.heap.size w w' := by
  have HG := Lib.hid hg
  clear hg
  go_enter Tryd.func7, Tryd.ntmps7
  go_wp2_with fail
  refine (ex_any _ HG.out).mono ?_; rintro e w' ⟨g, cap, rfl, c6, c20, c24, hb⟩
  have HB := Lib.hid hb
  clear hb
  go_wp2_with fail
  go_ret
  exact ⟨rfl, HB.out⟩

set_option maxHeartbeats 400000 in
theorem same_any (k1 : Int) (p1 : Int) (t1 : ByteArray) (n1 : Int) (w : World) :
    Calls Tryd.prog 10 #[.agg #[.int .i64 k1, .int .i64 p1, .string t1, .int .i64 n1], .agg #[.int .i64 k1, .int .i64 p1, .string t1, .int .i64 n1]] w fun e w' => e = .returned (.bool true) ∧ Below w.heap.size w w' := by
  go_enter Tryd.func10, Tryd.ntmps10
  go_wp2_with fail
  go_ret
  exact ⟨rfl, ((Below.refl _ _).alloc (Nat.le_refl _) _).alloc (by simp) _⟩

end Go.Proofs.YtbanidkfeibikaaDoor
