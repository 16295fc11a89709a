/-
  DERIVED. The walks of the two totals.
-/
import Derived.Test.YtelhokjjllikhaaTot
namespace Go.Proofs.Ytelhokjjllikhaa
open Go.RowKit Go.Sort

/-- What a total leaves. -/
def Totaled (w : World) (d : Array Nat) (e : Ending) (w' : World) : Prop :=
  ∃ (r : Nat) (d' : Array Nat), e = .returned (.float .f64 r) ∧ d'.size = d.size ∧ d'.toList.Perm d.toList ∧ Fl.Srt 0 d.size d' ∧ Fl.Is (Fl.tot (Fl.nums d'.toList)) r ∧ Below w.heap.size w w'

set_option maxHeartbeats 1600000 in
theorem total_any (p : Option Addr) (c : Nat) (d : Array Nat) (w : World) (hr : Reads w p d) (hsm : d.size ≤ 1000) :
    Calls Try.prog 12 #[.slice p d.size c] w (Totaled w d) := by
  have HSO := Lib.hid (sort_any p c d w hr hsm)
  clear hr
  go_enter Try.func12, Try.ntmps12
  go_wp2_with fail
  refine HSO.out.mono ?_
  rintro e w1 ⟨d1, rfl, hp1, hs1, hb1, hz1, hc1⟩
  have hsz : Hid (d1.size = d.size) := hp1.1
  have HP := Lib.hid (Fl.perm_all d.size d d1 rfl hp1)
  have HS := Lib.hid hs1; have HB := Lib.hid hb1; have HC := Lib.hid hc1
  clear hp1 hs1 hb1 hz1 hc1 HSO
  go_wp2_with fail
  go_loopw [3, 9] (fun t i wr => ∃ k m r : Nat, k ≤ d.size ∧ i = .int .i64 k ∧ t = .float .f64 r ∧ wr = w1.drewN m ∧ Hid (Fl.Is (Fl.tot (Fl.nums (d1.toList.take k))) r)) (fun _ i _ => d.size - (intOf i).toNat)
  case atStart => exact ⟨0, 0, 0, Nat.zero_le _, rfl, rfl, rfl, Fl.is_zero⟩
  case round =>
    obtain ⟨k, m, r, hk, rfl, rfl, hwr, HI⟩ := hrel
    have HW := Lib.hid hwr
    by_cases hlt : k < d.size
    · have ck : wr.cell? ⟨w.heap.size, k, none⟩ = some (.float .f64 d1[k]!) := by rw [hwr]; exact HC.out k hlt
      have hg := Fl.getE d1 k (by have := hsz.out; omega)
      have hlen : k < d1.toList.length := by rw [Array.length_toList, hsz.out]; exact hlt
      have n1 := Lib.hid (fun h => Fl.nums_snoc d1.toList k hlen (by rw [← hg]; exact h))
      have n2 := Lib.hid (fun h => Fl.nums_stop d.size d1 hsz.out.symm HS.out k hlt h)
      rw [← hg] at n1
      clear hwr hg hlen
      generalize d1[k]! = x at ck n1 n2
      cases hn : Fl.nan x
      · have e1 := n1.out hn
        cases ha : floatBits .add .f64 r x with
        | some t =>
          have hq := add_some r x t ha
          have HI2 : Hid (Fl.Is (Fl.tot (Fl.nums (d1.toList.take (k + 1)))) t) := by rw [e1, Fl.tot_snoc]; exact Fl.is_some HI.out ha
          clear e1 n1 n2 ha
          go_wp2_with (go_at_call 24; refine (isnan_any _ _).mono ?_; rintro e w' ⟨rfl, rfl⟩)
          go_roundw
          case rel => exact ⟨k + 1, m, t, by omega, by go_num, rfl, HW.out, HI2⟩
          case measure => simp [intOf]; omega
        | none =>
          obtain ⟨t, ht1, ht2, hq⟩ := add_none r x ha wr
          have HI2 : Hid (Fl.Is (Fl.tot (Fl.nums (d1.toList.take (k + 1)))) t) := by rw [e1, Fl.tot_snoc]; exact Fl.is_none HI.out ha ht1 ht2
          clear e1 n1 n2 ha ht1 ht2
          go_wp2_with (go_at_call 24; refine (isnan_any _ _).mono ?_; rintro e w' ⟨rfl, rfl⟩)
          go_roundw
          case rel => exact ⟨k + 1, m + 1, t, by omega, by go_num, rfl, by rw [HW.out]; rfl, HI2⟩
          case measure => simp [intOf]; omega
      · have e2 := n2.out hn
        have HI2 : Hid (Fl.Is (Fl.tot (Fl.nums d1.toList)) r) := by rw [e2]; exact HI.out
        clear e2 n1 n2
        go_wp2_with (go_at_call 24; refine (isnan_any _ _).mono ?_; rintro e w' ⟨rfl, rfl⟩)
        go_ret
        exact ⟨r, d1, rfl, hsz.out, HP.out, HS.out, HI2.out, by rw [HW.out]; exact below_drewN HB.out m⟩
    · have HI2 : Hid (Fl.Is (Fl.tot (Fl.nums d1.toList)) r) := by
        have := HI.out
        rw [List.take_of_length_le (by rw [Array.length_toList, hsz.out]; omega)] at this
        exact this
      clear hwr
      go_wp2
      go_ret
      exact ⟨r, d1, rfl, hsz.out, HP.out, HS.out, HI2.out, by rw [HW.out]; exact below_drewN HB.out m⟩

set_option maxHeartbeats 1600000 in
theorem reftotal_any (p : Option Addr) (c : Nat) (d : Array Nat) (w : World) (hr : Reads w p d) (hsm : d.size ≤ 1000) (wd : Words d) :
    Calls Try.prog 13 #[.slice p d.size c] w (Totaled w d) := by
  have HSO := Lib.hid (refsort_any p c d w hr hsm wd)
  clear hr wd
  go_enter Try.func13, Try.ntmps13
  go_wp2_with fail
  refine HSO.out.mono ?_
  rintro e w1 ⟨q, cap, d1, rfl, hz1, hr1, hp1, hs1, _, hb1⟩
  have hsz : Hid (d1.size = d.size) := hz1
  have HP := Lib.hid hp1
  have HS := Lib.hid hs1; have HB := Lib.hid hb1; have HR := Lib.hid hr1
  clear hp1 hs1 hb1 hz1 hr1 HSO
  go_wp2_with fail
  go_loopw [4, 5] (fun t i wr => ∃ k m r : Nat, k ≤ d.size ∧ i = .int .i64 k ∧ t = .float .f64 r ∧ wr = w1.drewN m ∧ Hid (Fl.Is (Fl.tot (Fl.nums (d1.toList.take k))) r)) (fun _ i _ => d.size - (intOf i).toNat)
  case atStart => exact ⟨0, 0, 0, Nat.zero_le _, rfl, rfl, rfl, Fl.is_zero⟩
  case round =>
    obtain ⟨k, m, r, hk, rfl, rfl, hwr, HI⟩ := hrel
    have HW := Lib.hid hwr
    by_cases hlt : k < d.size
    · obtain ⟨b, off, rfl, hcs⟩ := HR.out (by have := hsz.out; omega)
      have ck : wr.cell? ⟨b, off + k, none⟩ = some (.float .f64 d1[k]!) := by rw [hwr]; exact hcs k (by have := hsz.out; omega)
      have hg := Fl.getE d1 k (by have := hsz.out; omega)
      have hlen : k < d1.toList.length := by rw [Array.length_toList, hsz.out]; exact hlt
      have n1 := Lib.hid (fun h => Fl.nums_snoc d1.toList k hlen (by rw [← hg]; exact h))
      have n2 := Lib.hid (fun h => Fl.nums_skip d1.toList k hlen (by rw [← hg]; exact h))
      rw [← hg] at n1
      clear hwr hg hlen hcs
      generalize d1[k]! = x at ck n1 n2
      have ts := Fl.t_self x
      cases hn : Fl.nan x
      · rw [hn] at ts
        have e1 := n1.out hn
        cases ha : floatBits .add .f64 r x with
        | some t =>
          have hq := add_some r x t ha
          have HI2 : Hid (Fl.Is (Fl.tot (Fl.nums (d1.toList.take (k + 1)))) t) := by rw [e1, Fl.tot_snoc]; exact Fl.is_some HI.out ha
          clear e1 n1 n2 ha
          go_wp2_with fail
          go_quiet (fail)
          go_wp2
          go_roundw
          case rel => exact ⟨k + 1, m + nq, t, by omega, by go_num, rfl, by rw [HW.out, World.drewN_drewN], HI2⟩
          case measure => simp [intOf]; omega
        | none =>
          have ha2 := Lib.hid ha
          have E1 := Lib.hid e1
          clear e1 n1 n2 ha
          go_wp2_with fail
          go_quiet (fail)
          obtain ⟨t, ht1, ht2, hq⟩ := add_none r x ha2.out (wr.drewN nq)
          have HI2 : Hid (Fl.Is (Fl.tot (Fl.nums (d1.toList.take (k + 1)))) t) := by rw [E1.out, Fl.tot_snoc]; exact Fl.is_none HI.out ha2.out ht1 ht2
          clear ht1 ht2
          go_wp2
          go_roundw
          case rel => exact ⟨k + 1, m + nq + 1, t, by omega, by go_num, rfl, by rw [HW.out, World.drewN_drewN]; rfl, HI2⟩
          case measure => simp [intOf]; omega
      · rw [hn] at ts
        have HI2 : Hid (Fl.Is (Fl.tot (Fl.nums (d1.toList.take (k + 1)))) r) := by rw [n2.out hn]; exact HI.out
        clear n1 n2
        go_wp2_with fail
        go_quiet (fail)
        go_wp2
        go_roundw
        case rel => exact ⟨k + 1, m + nq, r, by omega, by go_num, rfl, by rw [HW.out, World.drewN_drewN], HI2⟩
        case measure => simp [intOf]; omega
    · have HI2 : Hid (Fl.Is (Fl.tot (Fl.nums d1.toList)) r) := by
        have := HI.out
        rw [List.take_of_length_le (by rw [Array.length_toList, hsz.out]; omega)] at this
        exact this
      clear hwr
      go_wp2
      go_ret
      exact ⟨r, d1, rfl, hsz.out, HP.out, HS.out, HI2.out, by rw [HW.out]; exact below_drewN HB.out m⟩

end Go.Proofs.Ytelhokjjllikhaa
