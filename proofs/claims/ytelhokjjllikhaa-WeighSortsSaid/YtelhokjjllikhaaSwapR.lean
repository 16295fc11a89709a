/-
  DERIVED. The walks of sort.swapRange_func and sort.rotate_func over a row of floats.
-/
import Derived.Test.YtelhokjjllikhaaMerge
import Derived.Test.YtelhokjjllikhaaShelf
import Derived.Test.YtelhokjjllikhaaSmall
namespace Go.Proofs.Ytelhokjjllikhaa
open Go.RowKit Go.Sort

/-- How a float stands as a value. -/
def encF (x : Nat) : Value := .float .f64 x

/-- What the library is handed: a test and an exchange over one row of floats. -/
structure Env (g : Nat) (lb : Array Value) (sf : Nat) (sb : Array Value) (blk off : Nat) (d : Array Nat) (W : World) : Prop where
  eg : ∀ args w, (callFunc g args).run Try.prog w = .ok (.enter g args) w
  less : LessReads Try.prog g lb encF Fl.less blk off d.size W
  swaps : SwapSwaps Try.prog sf sb encF blk off d.size
  inside : blk < W.heap.size
  row : Holds encF W blk off d
  small : d.size ≤ 1000

section
variable {g : Nat} {lb : Array Value} {sf : Nat} {sb : Array Value} {blk off : Nat} {d d' d2 : Array Nat} {W W' W2 : World}

theorem Env.on (E : Env g lb sf sb blk off d W) (h : SW encF W blk off d' W') (hs : d'.size = d.size) : Env g lb sf sb blk off d' W' :=
  ⟨E.eg, by rw [hs]; exact h.lessReads E.less E.inside hs, by rw [hs]; exact E.swaps, h.lt E.inside, h.holds E.inside E.row hs, by rw [hs]; exact E.small⟩

theorem sw_trans (h : SW encF W blk off d' W') (k : SW encF W' blk off d2 W2) (hb : blk < W.heap.size) (hs : d2.size = d'.size) : SW encF W blk off d2 W2 := by
  obtain ⟨n, os, rfl⟩ := k
  exact h.on hb n d2 os hs

theorem sw_cell (h : SW encF W blk off d' W') (B k : Nat) (hB : B ≠ blk) (hb : B < W.heap.size) : W'.cell? ⟨B, k, none⟩ = W.cell? ⟨B, k, none⟩ := by
  obtain ⟨n, os, rfl⟩ := h
  unfold sortWorld
  rw [cell?_grow _ _ _ (by rw [size_putRow]; exact hb), cell?_putRow_other encF _ blk off _ _ (Or.inl hB)]
  rfl

theorem swap_cell {w : World} {x y B k : Nat} {u v V : Value} (hB : B ≠ blk) (h : w.cell? ⟨B, k, none⟩ = some V) : ((w.setCell ⟨blk, x, none⟩ v).setCell ⟨blk, y, none⟩ u).cell? ⟨B, k, none⟩ = some V := by
  have n1 : (⟨blk, y, none⟩ : Addr) ≠ ⟨B, k, none⟩ := fun e => by injection e with e1 _; exact hB e1.symm
  have n2 : (⟨blk, x, none⟩ : Addr) ≠ ⟨B, k, none⟩ := fun e => by injection e with e1 _; exact hB e1.symm
  rw [World.cell?_setCell_other (h := n1), World.cell?_setCell_other (h := n2)]
  exact h
end

set_option maxHeartbeats 800000 in
theorem swapRange_w (g : Nat) (lb : Array Value) (sf : Nat) (sb : Array Value) (blk off : Nat) (d : Array Nat) (W : World) (E : Env g lb sf sb blk off d W) (a b n : Nat) (A B : Int)
    (hA : A = a) (hB : B = b) (ha : a + n ≤ d.size) (hb : b + n ≤ d.size) :
    Calls Try.prog 44 #[.agg #[.func (.func g) #[] lb, .func (.func sf) #[] sb], .int .i64 A, .int .i64 B, .int .i64 n] W fun e w' => e = .returned (.tuple #[]) ∧ SW encF W blk off (Fl.swapR d a b n) w' := by
  subst hA; subst hB
  have u49 := run_underlying Try.underlying49
  have hsm := E.small
  have hbW := E.inside
  have hSW := (SW.start E.row).alloc (.cells #[.func (.func g) #[] lb, .func (.func sf) #[] sb] 49)
  go_enter Try.func44, Try.ntmps44
  go_wp2
  go_loopw [8] (fun vi wr => ∃ i : Nat, vi = .int .i64 i ∧ i ≤ n ∧ SW encF W blk off (Fl.swapR d a b i) wr ∧ wr.cell? ⟨W.heap.size, 1, none⟩ = some (.func (.func sf) #[] sb)) (fun vi _ => n - (intOf vi).toNat)
  case atStart => exact ⟨0, rfl, Nat.zero_le _, hSW, by simp⟩
  case round =>
    obtain ⟨i, rfl, hi, hw, hc⟩ := hrel
    clear hSW
    by_cases hlt : i < n
    · have hsz : (Fl.swapR d a b i).size = d.size := Fl.size_swapR _ _ _ _
      have hsw := E.swaps wr _ (hw.holds E.inside E.row hsz) hsz (a + i) (b + i) (by omega) (by omega)
      rw [show ((a + i : Nat) : Int) = (a : Int) + (i : Int) by omega, show ((b + i : Nat) : Int) = (b : Int) + (i : Int) by omega] at hsw
      have hw2 := hw.swap E.inside (a + i) (b + i) (by omega) (by omega)
      have HW := Lib.hid hw2
      clear hw2 hw
      go_wp2
      go_roundw
      case rel => exact ⟨i + 1, by go_num, by omega, HW.out, swap_cell (by omega) hc⟩
      case measure => simp [intOf]; omega
    · obtain rfl : i = n := by omega
      have HW := Lib.hid hw
      clear hw
      go_wp2
      go_end0
      exact ⟨rfl, HW.out⟩

set_option maxHeartbeats 1600000 in
theorem rotate_w (g : Nat) (lb : Array Value) (sf : Nat) (sb : Array Value) (blk off : Nat) (d : Array Nat) (W : World) (E : Env g lb sf sb blk off d W) (a m b : Nat) (A B : Int) (T : Nat → Nat)
    (hA : A = a) (hB : B = b) (ham : a < m) (hmb : m < b) (hb : b ≤ d.size) (hT : Fl.RotF a m b d T) :
    Calls Try.prog 43 #[.agg #[.func (.func g) #[] lb, .func (.func sf) #[] sb], .int .i64 A, .int .i64 m, .int .i64 B] W fun e w' => e = .returned (.tuple #[]) ∧ ∃ d', SW encF W blk off d' w' ∧ PermIn a b d d' ∧ ∀ k, d'[k]! = T k := by
  subst hA; subst hB
  have hsm := E.small
  have hbW := E.inside
  have hSW := (SW.start E.row).alloc (.cells #[.func (.func g) #[] lb, .func (.func sf) #[] sb] 49)
  have HT := Lib.hid hT
  clear hT
  go_enter Try.func43, Try.ntmps43
  go_wp2
  go_loopw [8, 9] (fun vi vj wr => ∃ (i j : Nat) (c : Array Nat), vi = .int .i64 i ∧ vj = .int .i64 j ∧ 0 < i ∧ 0 < j ∧ a + i ≤ m ∧ m + j ≤ b ∧ SW encF W blk off c wr ∧ Hid (PermIn a b d c) ∧ Hid (Fl.RotF (m - i) m (m + j) c T) ∧
      W.heap.size < wr.heap.size ∧ wr.cell? ⟨W.heap.size, 0, none⟩ = some (.func (.func g) #[] lb) ∧ wr.cell? ⟨W.heap.size, 1, none⟩ = some (.func (.func sf) #[] sb)) (fun vi vj _ => (intOf vi).toNat + (intOf vj).toNat)
  case atStart =>
    refine ⟨m - a, b - m, d, by congr 1; omega, by congr 1; omega, by omega, by omega, by omega, by omega, hSW, permIn_refl _ _ _, ?_, by simp, by simp, by simp⟩
    have := HT.out
    rw [show m - (m - a) = a by omega, show m + (b - m) = b by omega]; exact this
  case round =>
    obtain ⟨i, j, c, rfl, rfl, hi, hj, hai, hbj, hw, hP, hR, hz, hc0, hc1⟩ := hrel
    have hcs : c.size = d.size := hP.out.1
    have E2 := E.on hw hcs
    have HW := Lib.hid hw
    clear hw hSW
    by_cases hij : i = j
    · subst hij
      go_wp2_with (go_at_call 44; refine (swapRange_w g lb sf sb blk off c _ E2 (m - i) m i _ _ (by omega) rfl (by omega) (by omega)).mono ?_; rintro e w1 ⟨rfl, hs1⟩)
      go_end0
      refine ⟨rfl, _, sw_trans HW.out hs1 E.inside (by rw [Fl.size_swapR]), ?_, ?_⟩
      · exact permIn_trans _ _ _ _ _ hP.out (Fl.swapR_perm _ _ _ _ _ _ (by omega) (by omega) (by omega) (by omega) (by omega))
      · exact Fl.rot_end m i c T (by omega) (by omega) hR.out
    · by_cases hlt : j < i
      · go_wp2_with (go_at_call 44; refine (swapRange_w g lb sf sb blk off c _ E2 (m - i) m j _ _ (by omega) rfl (by omega) (by omega)).mono ?_; rintro e w1 ⟨rfl, hs1⟩)
        go_roundw
        case rel =>
          refine ⟨i - j, j, _, by congr 1; omega, rfl, by omega, hj, by omega, hbj, sw_trans HW.out hs1 E.inside (by rw [Fl.size_swapR]), ?_, Fl.rot_left m i j c T (by omega) hj hlt (by omega) hR.out, ?_, ?_, ?_⟩
          · exact permIn_trans _ _ _ _ _ hP.out (Fl.swapR_perm _ _ _ _ _ _ (by omega) (by omega) (by omega) (by omega) (by omega))
          · have := hs1.le; omega
          · rw [sw_cell hs1 _ _ (by omega) hz]; exact hc0
          · rw [sw_cell hs1 _ _ (by omega) hz]; exact hc1
        case measure => simp [intOf]; omega
      · go_wp2_with (go_at_call 44; refine (swapRange_w g lb sf sb blk off c _ E2 (m - i) (m + j - i) i _ _ (by omega) (by omega) (by omega) (by omega)).mono ?_; rintro e w1 ⟨rfl, hs1⟩)
        go_roundw
        case rel =>
          refine ⟨i, j - i, _, rfl, by congr 1; omega, hi, by omega, hai, by omega, sw_trans HW.out hs1 E.inside (by rw [Fl.size_swapR]), ?_, Fl.rot_right m i j c T (by omega) hi (by omega) (by omega) hR.out, ?_, ?_, ?_⟩
          · exact permIn_trans _ _ _ _ _ hP.out (Fl.swapR_perm _ _ _ _ _ _ (by omega) (by omega) (by omega) (by omega) (by omega))
          · have := hs1.le; omega
          · rw [sw_cell hs1 _ _ (by omega) hz]; exact hc0
          · rw [sw_cell hs1 _ _ (by omega) hz]; exact hc1
        case measure => simp [intOf]; omega

end Go.Proofs.Ytelhokjjllikhaa
