/-
  DERIVED. The walks of the laws on names and on the sign that comes next.
-/
import Derived.Test.YtbanidkfeibikaaDoorLives
namespace Go.Proofs.YtbanidkfeibikaaDoor
open Go.RowKit

theorem beq_self (b : Bool) : (b == b) = true := by cases b <;> rfl

set_option maxHeartbeats 800000 in
theorem names_any (s : ByteArray) (w : World) (hs : s.size ≤ maxLen) (hg : Gl w) :
    Calls Tryd.prog 5 #[.string s] w fun e w' => e = .returned (.bool true) ∧ Below w.heap.size w w' := by
  unfold maxLen at hs
  have HG := Lib.hid hg
  clear hg
  by_cases hl : 1000 < s.size
  · go_enter Tryd.func5, Tryd.ntmps5
    go_wp2_with (go_at_call 7; refine (lives_any _ HG.out).mono ?_; rintro e w' ⟨rfl, hb⟩)
    go_ret
    exact ⟨rfl, by assumption⟩
  · have h5 : s.size ≤ 5000000 := by omega
    have q1 := beq_self (Tx.isKey s)
    have q2 := beq_self (Tx.nameB s)
    go_enter Tryd.func5, Tryd.ntmps5
    go_wp2_with fail
    refine (isKeyLex_any _ _ HG.out).mono ?_; rintro e w' ⟨rfl, rfl⟩
    go_wp2_with fail
    refine (isKeyRef_any _ _).mono ?_; rintro e w1 ⟨rfl, hb1⟩
    have HB1 := Lib.hid hb1
    clear hb1
    go_wp2_with fail
    refine (isNameLex_any _ _ h5 (HG.out.below HB1.out HG.out.two)).mono ?_; rintro e w' ⟨rfl, rfl⟩
    go_wp2_with fail
    refine (isNameRef_any _ _ h5).mono ?_; rintro e w2 ⟨rfl, hb2⟩
    have HB2 := Lib.hid hb2
    clear hb2
    go_wp2_with fail
    refine (lives_any _ ((HG.out.below HB1.out HG.out.two).below HB2.out (Nat.le_trans HG.out.two HB1.out.size))).mono ?_; rintro e w3 ⟨rfl, hb3⟩
    have HB3 := Lib.hid hb3
    clear hb3
    go_wp2_with fail
    go_ret
    exact ⟨rfl, (HB1.out.trans (HB2.out.mono HB1.out.size)).trans (HB3.out.mono (Nat.le_trans HB1.out.size HB2.out.size))⟩

set_option maxHeartbeats 1600000 in
theorem nexts_any (s : ByteArray) (i : Int) (w : World) (hs : s.size ≤ maxLen) (hg : Gl w) :
    Calls Tryd.prog 4 #[.string s, .int .i64 i] w fun e w' => e = .returned (.bool true) ∧ Below w.heap.size w w' := by
  unfold maxLen at hs
  have HG := Lib.hid hg
  clear hg
  by_cases hl : 5000 < s.size
  · go_enter Tryd.func4, Tryd.ntmps4
    go_wp2_with (go_at_call 7; refine (lives_any _ HG.out).mono ?_; rintro e w' ⟨rfl, hb⟩)
    go_ret
    exact ⟨rfl, by assumption⟩
  · have h5 : s.size ≤ 5000000 := by omega
    have hn1 := fun w hg => next_any s i w h5 hg
    have hn2 := fun w => refNext_any s i w h5
    generalize Tx.nx s (held s i) = a at hn1 hn2
    have HN1 := Lib.hid hn1
    have HN2 := Lib.hid hn2
    clear hn1 hn2
    go_enter Tryd.func4, Tryd.ntmps4
    go_wp2_with fail
    refine (HN1.out _ HG.out).mono ?_; rintro e w1 ⟨rfl, hb1⟩
    have HB1 := Lib.hid hb1
    clear hb1
    go_wp2_with fail
    refine (HN2.out _).mono ?_; rintro e w2 ⟨rfl, hb2⟩
    obtain ⟨hc, hf⟩ := bcell hb2
    have hz1 : w1.heap.size < w2.heap.size := by have := hb2.size; simp at this; omega
    have HB2 := Lib.hid hb2
    clear hb2
    go_wp2_with fail
    refine (same_any _ _ _ _ _).mono ?_; rintro e w3 ⟨rfl, hb3⟩
    have HB3 := Lib.hid hb3
    clear hb3
    go_wp2_with fail
    have b1 := HB1.out.alloc HB1.out.size (.cells #[.int .i64 a.sg.kind, .int .i64 a.sg.pos, .string a.sg.text, .int .i64 a.sg.num] 32)
    have b2 := b1.trans (HB2.out.mono b1.size)
    have b3 := b2.alloc b2.size (.cells #[.int .i64 a.sg.kind, .int .i64 a.sg.pos, .string a.sg.text, .int .i64 a.sg.num] 33)
    have b4 := b3.trans (HB3.out.mono b3.size)
    refine (lives_any _ (HG.out.below b4 HG.out.two)).mono ?_; rintro e w4 ⟨rfl, hb4⟩
    have HB4 := Lib.hid (b4.trans (hb4.mono b4.size))
    clear hb4 b1 b2 b3 b4
    go_wp2_with fail
    go_ret
    exact ⟨rfl, HB4.out⟩

end Go.Proofs.YtbanidkfeibikaaDoor
