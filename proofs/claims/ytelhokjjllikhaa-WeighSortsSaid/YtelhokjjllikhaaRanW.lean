/-
  DERIVED. The walk of the law on ranks.
-/
import Derived.Test.YtelhokjjllikhaaFloats
import Derived.Test.YtelhokjjllikhaaSpot
namespace Go.Proofs.Ytelhokjjllikhaa
open Go.RowKit Go.Sort

theorem rank_any (x : Nat) (p : Option Addr) (c : Nat) (d : Array Nat) (w : World) (hr : Reads w p d) (hsm : d.size ≤ 1000) :
    Calls Try.prog 16 #[.slice p d.size c, .float .f64 x] w fun e w' => e = .returned (.int .i64 (Fl.cnt d.toList x)) ∧ w = w' := by
  by_cases h0 : d.size = 0
  · have e : d.toList = [] := by
      apply List.eq_nil_of_length_eq_zero; rw [Array.length_toList, h0]
    rw [h0, e]
    exact rank_nil x p c w
  · obtain ⟨b, off, rfl, hc⟩ := hr (by omega)
    have := rank_row x d.toList b off c w (by rw [Array.length_toList]; exact hsm) (fun k hk => by
      rw [Array.length_toList] at hk
      rw [hc k hk, getElem!_pos d k hk]
      simp [encF, List.getD, hk])
    rw [Array.length_toList] at this
    exact this

theorem Words.perm {d d' : Array Nat} (h : Words d) (hp : PermIn 0 d.size d d') : Words d' := fun k hk =>
  permIn_all d d' 0 d.size (fun x => x < 18446744073709551616) (Nat.le_refl _) hp (fun i _ hi => h i hi) k (Nat.zero_le _) (by rw [← hp.1]; exact hk)

theorem reads_below {w w' : World} {p : Option Addr} {d : Array Nat} {B : Nat} (h : Reads w p d) (hb : Below B w w') (hB : w.heap.size ≤ B) : Reads w' p d := fun h0 => by
  obtain ⟨b, off, rfl, hc⟩ := h h0
  refine ⟨b, off, rfl, fun k hk => ?_⟩
  have := cell_lt (hc k hk)
  rw [hb.cell (p := ⟨b, off + k, none⟩) (by show b < B; omega)]
  exact hc k hk

theorem reads_drewN {w : World} {p : Option Addr} {d : Array Nat} (h : Reads w p d) (n : Nat) : Reads (w.drewN n) p d := h

set_option maxHeartbeats 800000 in
theorem ranks_any (p : Option Addr) (c : Nat) (d : Array Nat) (w : World) (hr : Reads w p d) (hsm : d.size ≤ 200) (wd : Words d) :
    Calls Try.prog 6 #[.slice p d.size c] w fun e w' => e = .returned (.bool true) ∧ Below w.heap.size w w' := by
  have hso := sort_any p c d w hr (by omega)
  have HR := Lib.hid hr; have WD := Lib.hid wd; have HSO := Lib.hid hso
  clear hr wd hso
  go_enter Try.func6, Try.ntmps6
  go_wp2_with fail
  refine HSO.out.mono ?_
  rintro e w1 ⟨d1, rfl, hp1, hs1, hb1, hz1, hc1⟩
  have r1 : Reads w1 (some ⟨w.heap.size, 0, none⟩) d1 := fun _ => ⟨w.heap.size, 0, rfl, fun k hk => by rw [Nat.zero_add]; exact hc1 k (by rw [← hp1.1]; exact hk)⟩
  have R1 := Lib.hid r1; have P1 := Lib.hid hp1; have S1 := Lib.hid hs1; have B1 := Lib.hid hb1
  have W1 : Hid (Words d1) := WD.out.perm hp1
  have Z1 : Hid (d1.size = d.size) := hp1.1
  clear r1 hp1 hs1 hc1 hb1 HSO
  have hso2 := sort_any (some ⟨w.heap.size, 0, none⟩) d.size d1 w1 R1.out (by have := Z1.out; omega)
  rw [Z1.out] at hso2
  have HSO := Lib.hid hso2
  clear hso2
  go_wp2_with fail
  refine HSO.out.mono ?_
  rintro e w2 ⟨d2, rfl, hp2, hs2, hb2, hz2, hc2⟩
  rw [Z1.out]
  have hsz1 : d1.size = d.size := Z1.out
  have hsz2 : d2.size = d.size := by rw [hp2.1, hsz1]
  have r2 : Reads w2 (some ⟨w1.heap.size, 0, none⟩) d2 := fun _ => ⟨w1.heap.size, 0, rfl, fun k hk => by rw [Nat.zero_add]; exact hc2 k (by omega)⟩
  have hsame := Fl.same_places d.size d2 d1 hsz2 hsz1 (Fl.perm_all d1.size d1 d2 rfl hp2) (by rw [← hsz1]; exact hs2) S1.out
  have r1b : Reads w2 (some ⟨w.heap.size, 0, none⟩) d1 := reads_below R1.out hb2 (Nat.le_refl _)
  have hfl := floats_true (some ⟨w1.heap.size, 0, none⟩) (some ⟨w.heap.size, 0, none⟩) d.size d.size d2 d1 w2 r2 r1b (by omega) (by omega) (W1.out.perm hp2) W1.out (fun k hk => hsame k (by omega))
  rw [hsz1, hsz2] at hfl
  have HFL := Lib.hid hfl
  have R1B := Lib.hid r1b
  have B2 := Lib.hid (B1.out.trans (hb2.mono (Nat.le_of_lt hz1)))
  have RL := Lib.hid (reads_below HR.out B2.out (Nat.le_refl _))
  clear hfl hsame r2 r1b hp2 hs2 hb2 hz2 hc2 hsz1 hsz2 HSO R1 B1 HR
  go_wp2_with fail
  refine HFL.out.mono ?_
  rintro e w3 ⟨rfl, m, hw3⟩
  have HW3 := Lib.hid hw3
  clear hw3 HFL
  go_wp2
  go_loopw [4] (fun v wr => ∃ i m : Nat, v = .int .i64 i ∧ i ≤ d.size ∧ wr = w2.drewN m) (fun v _ => d.size - (intOf v).toNat)
  case atStart => exact ⟨0, m, rfl, Nat.zero_le _, HW3.out⟩
  case round =>
    obtain ⟨i, m', rfl, hi, hwr⟩ := hrel
    have HW := Lib.hid hwr
    by_cases hlt : i < d.size
    · obtain ⟨r, hr1, hr2, hr3⟩ := Fl.rank_spot d.size d d1 rfl P1.out S1.out i hlt
      have hcs : ∀ k, k < d.size → wr.cell? ⟨w.heap.size, k, none⟩ = some (.float .f64 d1[k]!) := fun k hk => by
        obtain ⟨b, off, e1, hc⟩ := R1B.out (by have := Z1.out; omega)
        injection e1 with e1; injection e1 with e2 e3 _
        subst e2; subst e3
        have := hc k (by have := Z1.out; omega)
        rw [Nat.zero_add] at this
        rw [hwr]; exact this
      have ci := hcs i hlt
      have cr := hcs r (by omega)
      have hrk := rank_any d1[i]! p c d wr (by rw [hwr]; exact RL.out) (by omega)
      rw [hr1] at hrk
      have hsm2 : Fl.same d1[r]! d1[i]! = true := by unfold Fl.same; simp [hr3]
      have li := Lib.hid (W1.out i (by have := Z1.out; omega))
      have lr := Lib.hid (W1.out r (by have := Z1.out; omega))
      have g1 : decide ((i : Int) < r) = false := by simp; omega
      have g2 : decide ((r : Int) < 0) = false := by simp
      have hrd : r < d.size := by omega
      clear hcs hwr hr1 hr3
      generalize d1[i]! = x at ci hrk hsm2 li
      generalize d1[r]! = y at cr hsm2 lr
      have HRK := Lib.hid hrk
      clear hrk
      go_wp2_with fail
      refine HRK.out.mono ?_
      rintro e w4 ⟨rfl, rfl⟩
      go_wp2_with fail
      go_quiet ((go_at_call 11; exact Calls.quiet_of_same (alike_back _ _ _ lr.out li.out)))
      go_wp2
      go_roundw
      case rel => exact ⟨i + 1, m' + nq, by go_num, by omega, by rw [HW.out, World.drewN_drewN]⟩
      case measure => simp [intOf]; omega
    · clear hwr
      go_wp2_with fail
      refine (lives_any _).mono ?_
      rintro e w4 ⟨rfl, hb4⟩
      have HB4 := Lib.hid hb4
      clear hb4
      go_wp2
      go_ret
      refine ⟨rfl, (below_drewN B2.out m').trans ?_⟩
      have h4 := HB4.out
      rw [HW.out] at h4
      exact h4.mono (by have := B2.out.size; exact this)

end Go.Proofs.Ytelhokjjllikhaa
