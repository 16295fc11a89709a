/-
  DERIVED. The walks of the best one's place, the program's and the document's, and of the document's rank.
-/
import Derived.Test.YtelhokjjllikhaaRanW
namespace Go.Proofs.Ytelhokjjllikhaa
open Go.RowKit Go.Sort

namespace Fl
/-- The place of the greatest of the first k; -1, if there is none. -/
def bestK (d : Array Nat) : Nat → Int
  | 0 => -1
  | k + 1 => if nan d[k]! then bestK d k else if bestK d k < 0 || less d[(bestK d k).toNat]! d[k]! then (k : Int) else bestK d k
theorem bestK_le (d : Array Nat) (k : Nat) : -1 ≤ bestK d k ∧ bestK d k < k := by
  induction k with
  | zero => simp [bestK]
  | succ k ih => unfold bestK; split <;> (try split) <;> omega
theorem bestK_nan (d : Array Nat) (k : Nat) (h : nan d[k]! = true) : bestK d (k + 1) = bestK d k := by rw [bestK, h]; rfl
theorem bestK_first (d : Array Nat) (k : Nat) (h : nan d[k]! = false) (h2 : bestK d k < 0) : bestK d (k + 1) = k := by
  rw [bestK, h]; simp [h2]
theorem bestK_more (d : Array Nat) (k j : Nat) (h : nan d[k]! = false) (h2 : bestK d k = j) (h3 : less d[j]! d[k]! = true) : bestK d (k + 1) = k := by
  rw [bestK, h, h2]; simp [h3]
theorem bestK_stay (d : Array Nat) (k j : Nat) (h : nan d[k]! = false) (h2 : bestK d k = j) (h3 : less d[j]! d[k]! = false) : bestK d (k + 1) = j := by
  rw [bestK, h, h2]; simp [h3]; omega
end Fl

set_option maxHeartbeats 1600000 in
theorem best_any (p : Option Addr) (c : Nat) (d : Array Nat) (w : World) (hr : Reads w p d) (hsm : d.size ≤ 1000) :
    Calls Try.prog 14 #[.slice p d.size c] w fun e w' => e = .returned (.int .i64 (Fl.bestK d d.size)) ∧ w = w' := by
  have HR := Lib.hid hr
  clear hr
  go_enter Try.func14, Try.ntmps14
  go_wp2
  go_loop [3, 8] (fun b i => ∃ k : Nat, k ≤ d.size ∧ i = .int .i64 k ∧ b = .int .i64 (Fl.bestK d k)) (fun _ i => d.size - (intOf i).toNat)
  case atStart => exact ⟨0, Nat.zero_le _, rfl, rfl⟩
  case round =>
    obtain ⟨k, hk, rfl, rfl⟩ := hrel
    have hle := Fl.bestK_le d k
    by_cases hlt : k < d.size
    · obtain ⟨b, off, rfl, hc⟩ := HR.out (by omega)
      have ck : w.cell? ⟨b, off + k, none⟩ = some (.float .f64 d[k]!) := hc k hlt
      have n1 := Lib.hid (Fl.bestK_nan d k)
      have n2 := Lib.hid (Fl.bestK_first d k)
      have n3 := Lib.hid (Fl.bestK_more d k)
      have n4 := Lib.hid (Fl.bestK_stay d k)
      generalize hx : d[k]! = x at ck n1 n2 n3 n4
      have HX := Lib.hid hx
      cases hn : Fl.nan x
      · by_cases h0 : Fl.bestK d k < 0
        · have e := n2.out hn h0
          have h1 : Fl.bestK d k = -1 := by omega
          rw [h1]
          have E := Lib.hid e
          clear e h1 h0 hc hle hx
          go_wp2_with (go_at_call 24; refine (isnan_any _ _).mono ?_; rintro e w' ⟨rfl, rfl⟩)
          go_round
          case rel => exact ⟨k + 1, by omega, by go_num, by rw [E.out]⟩
          case measure => simp [intOf]; omega
        · obtain ⟨j, hj⟩ : ∃ j : Nat, Fl.bestK d k = j := ⟨(Fl.bestK d k).toNat, by omega⟩
          have cj : w.cell? ⟨b, off + j, none⟩ = some (.float .f64 d[j]!) := hc j (by omega)
          have m3 := Lib.hid (n3.out j hn hj)
          have m4 := Lib.hid (n4.out j hn hj)
          have hjk : j < d.size := by omega
          have hj0 : decide ((j : Int) < 0) = false := by simp
          rw [hj]
          have HJ := Lib.hid hj
          clear hj h0 hc hle n1 n2 n3 n4
          generalize d[j]! = y at cj m3 m4
          cases hl : Fl.less y x
          · have E := Lib.hid (m4.out hl)
            clear hx
            go_wp2_with (first | (go_at_call 24; refine (isnan_any _ _).mono ?_; rintro e w' ⟨rfl, rfl⟩) | (go_at_call 20; refine (less_any _ _ _).mono ?_; rintro e w' ⟨rfl, rfl⟩))
            go_round
            case rel => exact ⟨k + 1, by omega, by go_num, by rw [E.out]⟩
            case measure => simp [intOf]; omega
          · have E := Lib.hid (m3.out hl)
            clear hx
            go_wp2_with (first | (go_at_call 24; refine (isnan_any _ _).mono ?_; rintro e w' ⟨rfl, rfl⟩) | (go_at_call 20; refine (less_any _ _ _).mono ?_; rintro e w' ⟨rfl, rfl⟩))
            go_round
            case rel => exact ⟨k + 1, by omega, by go_num, by rw [E.out]⟩
            case measure => simp [intOf]; omega
      · have E := Lib.hid (n1.out hn)
        clear hc hle hx
        generalize Fl.bestK d k = B at E
        go_wp2_with (go_at_call 24; refine (isnan_any _ _).mono ?_; rintro e w' ⟨rfl, rfl⟩)
        go_round
        case rel => exact ⟨k + 1, by omega, by go_num, by rw [E.out]⟩
        case measure => simp [intOf]; omega
    · obtain rfl : k = d.size := by omega
      go_wp2
      go_ret
      exact ⟨rfl, rfl⟩

theorem Fl.t_self (a : Nat) : (FloatKind.f64.format.order a a == some .eq) = !Fl.nan a := by
  rw [Fl.t_eq]; cases Fl.nan a <;> simp

theorem refless_back (a b : Nat) (w : World) (la : a < 18446744073709551616) (lb : b < 18446744073709551616) : Calls Try.prog 21 #[.float .f64 a, .float .f64 b] w fun e w' => e = .returned (.bool (Fl.less a b)) ∧ w' = w :=
  (refless_any a b w la lb).mono fun _ _ ⟨he, hw⟩ => ⟨he, hw.symm⟩

set_option maxHeartbeats 1600000 in
theorem refbest_any (p : Option Addr) (c : Nat) (d : Array Nat) (w : World) (hr : Reads w p d) (hsm : d.size ≤ 1000) (wd : Words d) :
    Calls Try.prog 15 #[.slice p d.size c] w fun e w' => e = .returned (.int .i64 (Fl.bestK d d.size)) ∧ ∃ m, w' = w.drewN m := by
  have HR := Lib.hid hr
  have WD := Lib.hid wd
  clear hr wd
  go_enter Try.func15, Try.ntmps15
  go_wp2
  go_loopw [3, 4] (fun b i wr => ∃ k m : Nat, k ≤ d.size ∧ i = .int .i64 k ∧ b = .int .i64 (Fl.bestK d k) ∧ wr = w.drewN m) (fun _ i _ => d.size - (intOf i).toNat)
  case atStart => exact ⟨0, 0, Nat.zero_le _, rfl, rfl, rfl⟩
  case round =>
    obtain ⟨k, m, hk, rfl, rfl, hwr⟩ := hrel
    have HW := Lib.hid hwr
    have hle := Fl.bestK_le d k
    by_cases hlt : k < d.size
    · obtain ⟨b, off, rfl, hc⟩ := HR.out (by omega)
      have ck : wr.cell? ⟨b, off + k, none⟩ = some (.float .f64 d[k]!) := by rw [hwr]; exact hc k hlt
      have lx := Lib.hid (WD.out k hlt)
      have n1 := Lib.hid (Fl.bestK_nan d k)
      have n2 := Lib.hid (Fl.bestK_first d k)
      have n3 := Lib.hid (Fl.bestK_more d k)
      have n4 := Lib.hid (Fl.bestK_stay d k)
      generalize hx : d[k]! = x at ck n1 n2 n3 n4 lx
      have ts := Fl.t_self x
      cases hn : Fl.nan x
      · rw [hn] at ts
        by_cases h0 : Fl.bestK d k < 0
        · have e := n2.out hn h0
          have h1 : Fl.bestK d k = -1 := by omega
          rw [h1]
          have E := Lib.hid e
          clear e h1 h0 hc hle hx hwr
          go_wp2_with fail
          go_quiet (fail)
          go_wp2
          go_roundw
          case rel => exact ⟨k + 1, m + nq, by omega, by go_num, by rw [E.out], by rw [HW.out, World.drewN_drewN]⟩
          case measure => simp [intOf]; omega
        · obtain ⟨j, hj⟩ : ∃ j : Nat, Fl.bestK d k = j := ⟨(Fl.bestK d k).toNat, by omega⟩
          have cj : wr.cell? ⟨b, off + j, none⟩ = some (.float .f64 d[j]!) := by rw [hwr]; exact hc j (by omega)
          have ly := Lib.hid (WD.out j (by omega))
          have m3 := Lib.hid (n3.out j hn hj)
          have m4 := Lib.hid (n4.out j hn hj)
          have hjk : j < d.size := by omega
          have hj0 : decide ((j : Int) < 0) = false := by simp
          rw [hj]
          clear hj h0 hc hle n1 n2 n3 n4 hwr
          generalize d[j]! = y at cj m3 m4 ly
          cases hl : Fl.less y x
          · have E := Lib.hid (m4.out hl)
            clear hx
            go_wp2_with fail
            go_quiet ((go_at_call 21; exact Calls.quiet_of_same (refless_back _ _ _ ly.out lx.out)))
            go_wp2
            go_roundw
            case rel => exact ⟨k + 1, m + nq, by omega, by go_num, by rw [E.out], by rw [HW.out, World.drewN_drewN]⟩
            case measure => simp [intOf]; omega
          · have E := Lib.hid (m3.out hl)
            clear hx
            go_wp2_with fail
            go_quiet ((go_at_call 21; exact Calls.quiet_of_same (refless_back _ _ _ ly.out lx.out)))
            go_wp2
            go_roundw
            case rel => exact ⟨k + 1, m + nq, by omega, by go_num, by rw [E.out], by rw [HW.out, World.drewN_drewN]⟩
            case measure => simp [intOf]; omega
      · rw [hn] at ts
        have E := Lib.hid (n1.out hn)
        clear hc hle hx hwr
        generalize Fl.bestK d k = B at E
        go_wp2_with fail
        go_quiet (fail)
        go_wp2
        go_roundw
        case rel => exact ⟨k + 1, m + nq, by omega, by go_num, by rw [E.out], by rw [HW.out, World.drewN_drewN]⟩
        case measure => simp [intOf]; omega
    · obtain rfl : k = d.size := by omega
      clear hwr
      go_wp2
      go_ret
      exact ⟨rfl, m, HW.out⟩

set_option maxHeartbeats 1600000 in
theorem refrank_any (x : Nat) (p : Option Addr) (c : Nat) (d : Array Nat) (w : World) (hr : Reads w p d) (hsm : d.size ≤ 1000) (wd : Words d) (lx : x < 18446744073709551616) :
    Calls Try.prog 17 #[.slice p d.size c, .float .f64 x] w fun e w' => e = .returned (.int .i64 (Fl.cnt d.toList x)) ∧ w = w' := by
  have HR := Lib.hid hr
  have WD := Lib.hid wd
  have LX := Lib.hid lx
  have HL : Hid (d.toList.length = d.size) := Array.length_toList
  clear hr wd lx
  go_enter Try.func17, Try.ntmps17
  go_wp2
  go_loop [5, 6] (fun n i => ∃ k : Nat, k ≤ d.size ∧ i = .int .i64 k ∧ n = .int .i64 (Fl.cnt (d.toList.take k) x)) (fun _ i => d.size - (intOf i).toNat)
  case atStart => exact ⟨0, Nat.zero_le _, rfl, rfl⟩
  case round =>
    obtain ⟨k, hk, rfl, rfl⟩ := hrel
    have hd := Fl.cnt_le (d.toList.take k) x
    have hk2 : (d.toList.take k).length ≤ k := List.length_take_le _ _
    by_cases hlt : k < d.size
    · obtain ⟨b, off, rfl, hc⟩ := HR.out (by omega)
      have ck : w.cell? ⟨b, off + k, none⟩ = some (.float .f64 d[k]!) := hc k hlt
      have hs := Fl.cnt_snoc d.toList x k (by rw [HL.out]; exact hlt)
      have ey : d.toList.getD k 0 = d[k]! := by
        rw [getElem!_pos d k hlt]; simp [List.getD, hlt]
      rw [ey] at hs
      have ly := Lib.hid (WD.out k hlt)
      have HS := Lib.hid hs
      clear hs hc ey
      generalize d[k]! = y at ck ly HS
      generalize Fl.cnt (d.toList.take k) x = N at HS hd
      cases hb : Fl.less y x
      all_goals
        go_wp2_with (go_at_call 21; refine (refless_any _ _ _ (by exact ly.out) (by exact LX.out)).mono ?_; rintro e w' ⟨rfl, rfl⟩)
        go_round
        case rel => exact ⟨k + 1, by omega, by go_num, by rw [HS.out, hb]; first | rfl | (simp; done)⟩
        case measure => simp [intOf]; omega
    · go_wp2
      go_ret
      exact ⟨by rw [List.take_of_length_le (by rw [HL.out]; omega)]; rfl, rfl⟩

end Go.Proofs.Ytelhokjjllikhaa
