/-
  DERIVED. The walk of the law TreeCounts.
-/
import Derived.Test.YtpbjnjnmbglllaaCntW
namespace Go.Proofs.Ytpbjnjnmbglllaa
open Go.RowKit Go.Sort

set_option maxHeartbeats 1600000 in
set_option maxRecDepth 100000 in
theorem counts_law (l : SL) (p : Option Addr) (c : Nat) (w : World) (hl : sLies w p l) :
    Calls Try.prog 3 #[.slice p l.len c] w fun e w' => e = .returned (.bool true) ∧ Below w.heap.size w w' := by
  have HL := Lib.hid hl
  have HW := Lib.hid (weight_any l p c 0 w (Int.le_refl _) (by omega) hl)
  clear hl
  by_cases hw : 1000 < wt l 0
  · generalize wt l 0 = n at HW hw
    go_enter Try.func3, Try.ntmps3
    go_wp2_with fail
    refine (HW.out).mono ?_; rintro en w1 ⟨rfl, hb1⟩
    have HB1 := Lib.hid hb1
    clear hb1
    go_wp2_with fail
    refine (lives_any _).mono ?_; rintro en w2 ⟨rfl, hb2⟩
    have HB2 : Hid (Below w.heap.size w w2) := Lib.hid (HB1.out.trans (hb2.mono HB1.out.size))
    clear hb2
    go_wp2_with fail
    go_ret
    exact ⟨rfl, HB2.out⟩
  · have hc := count_small l (by omega)
    have HC : Hid (l.count ≤ 10000) := Lib.hid (by omega)
    have hw' : wt l 0 ≤ 1000 := by omega
    clear hw
    have HEV : Hid ((uq [] l.every).length ≤ 1000000) := Lib.hid (by have := uq_len [] l.every; have := SL.every_le l; simp only [List.length_nil] at *; omega)
    clear hc
    generalize wt l 0 = n at HW hw'
    go_enter Try.func3, Try.ntmps3
    go_wp2_with fail
    refine (HW.out).mono ?_; rintro en w0 ⟨rfl, hb0⟩
    have HB0 := Lib.hid hb0
    have HL0 := Lib.hid (sLies_below HL.out hb0)
    clear hb0
    go_wp2_with fail
    refine (deep_any l _ _ _ HL0.out HC.out).mono ?_; rintro en w1 ⟨rfl, hb1⟩
    have HB1 : Hid (Below w.heap.size w w1) := Lib.hid (HB0.out.trans (hb1.mono HB0.out.size))
    have HL1 := Lib.hid (sLies_below HL.out HB1.out)
    clear hb1
    go_wp2_with fail
    refine (ref9_any l _ _ _ HL1.out HC.out).mono ?_; rintro en w2 ⟨rfl, hb2⟩
    have HB2 : Hid (Below w.heap.size w w2) := Lib.hid (HB1.out.trans (hb2.mono HB1.out.size))
    have HL2 := Lib.hid (sLies_below HL.out HB2.out)
    clear hb2
    go_wp2_with fail
    refine (count_any l _ _ _ HL2.out HC.out).mono ?_; rintro en w3 ⟨rfl, hb3⟩
    have HB3 : Hid (Below w.heap.size w w3) := Lib.hid (HB2.out.trans (hb3.mono HB2.out.size))
    have HL3 := Lib.hid (sLies_below HL.out HB3.out)
    clear hb3
    go_wp2_with fail
    refine (ref11_any l _ _ _ HL3.out HC.out).mono ?_; rintro en w4 ⟨rfl, hb4⟩
    have HB4 : Hid (Below w.heap.size w w4) := Lib.hid (HB3.out.trans (hb4.mono HB3.out.size))
    have HL4 := Lib.hid (sLies_below HL.out HB4.out)
    clear hb4
    go_wp2_with fail
    refine (loops_any l _ _ _ HL4.out HC.out).mono ?_; rintro en w5 ⟨rfl, hb5⟩
    have HB5 : Hid (Below w.heap.size w w5) := Lib.hid (HB4.out.trans (hb5.mono HB4.out.size))
    have HL5 := Lib.hid (sLies_below HL.out HB5.out)
    clear hb5
    go_wp2_with fail
    refine (ref13_any l _ _ _ HL5.out HC.out).mono ?_; rintro en w6 ⟨rfl, hb6⟩
    have HB6 : Hid (Below w.heap.size w w6) := Lib.hid (HB5.out.trans (hb6.mono HB5.out.size))
    have HL6 := Lib.hid (sLies_below HL.out HB6.out)
    clear hb6
    go_wp2_with fail
    refine (treeCalls_any l _ _ _ HL6.out HC.out).mono ?_; rintro en w7 ⟨v7, rfl, ho7, hb7⟩
    have HB7 : Hid (Below w.heap.size w w7) := Lib.hid (HB6.out.trans (hb7.mono HB6.out.size))
    have HL7 := Lib.hid (sLies_below HL.out HB7.out)
    have HO7 := Lib.hid ho7
    clear hb7 ho7
    go_wp2_with fail
    refine (refCalls_any l _ _ _ HL7.out HC.out).mono ?_; rintro en w8 ⟨v8, rfl, ho8, hb8⟩
    have HB8 : Hid (Below w.heap.size w w8) := Lib.hid (HB7.out.trans (hb8.mono HB7.out.size))
    have HO8 := Lib.hid ho8
    have HO7' := Lib.hid (own_below HO7.out hb8)
    clear hb8 ho8
    go_wp2_with fail
    refine (texts_any _ _ _ _ _ _ HO7'.out HO8.out HEV.out).mono ?_; rintro en w9 ⟨rfl, hb9⟩
    have HB9 : Hid (Below w.heap.size w w9) := Lib.hid (HB8.out.trans (hb9.mono HB8.out.size))
    clear hb9
    go_wp2_with fail
    refine (lives_any _).mono ?_; rintro en w10 ⟨rfl, hb10⟩
    have HB10 : Hid (Below w.heap.size w w10) := Lib.hid (HB9.out.trans (hb10.mono HB9.out.size))
    clear hb10
    go_wp2_with fail
    go_ret
    exact ⟨rfl, HB10.out⟩

end Go.Proofs.Ytpbjnjnmbglllaa
