/-
  DERIVED. The walk of sort.symMerge_func where the first run is one element, and where the second one is.
-/
import Derived.Test.YtelhokjjllikhaaIns
import Derived.Test.YtelhokjjllikhaaSwapR
namespace Go.Proofs.Ytelhokjjllikhaa
open Go.RowKit Go.Sort

theorem int_eq {k : IntKind} {a b : Int} (h : a = b) : Value.int k a = Value.int k b := by rw [h]

set_option maxRecDepth 100000 in
set_option maxHeartbeats 1600000 in
theorem sym_one (g : Nat) (lb : Array Value) (sf : Nat) (sb : Array Value) (blk off : Nat) (d : Array Nat) (W : World) (E : Env g lb sf sb blk off d W) (a m b : Nat) (hm : m = a + 1) (hmb : m < b) (hb : b ≤ d.size)
    (h2 : Hid (Fl.Srt m b d)) :
    Calls Try.prog 42 #[.agg #[.func (.func g) #[] lb, .func (.func sf) #[] sb], .int .i64 a, .int .i64 m, .int .i64 b] W fun e w' => e = .returned (.tuple #[]) ∧ ∃ d', SW encF W blk off d' w' ∧ PermIn a b d d' ∧ Fl.Srt a b d' := by
  have u49 := run_underlying Try.underlying49
  have hsm := E.small
  have hbW := E.inside
  have hSW := (SW.start E.row).alloc (.cells #[.func (.func g) #[] lb, .func (.func sf) #[] sb] 49)
  have ht : ((m : Int) - a == 1) = true := by simp; omega
  have HM := Lib.hid hm
  have hm1 : a < m := by omega
  clear hm
  go_enter Try.func42, Try.ntmps42
  go_wp2
  go_loopw [8, 9] (fun vi vj wr => ∃ (i j : Nat), vi = .int .i64 i ∧ vj = .int .i64 j ∧ m ≤ i ∧ i ≤ j ∧ j ≤ b ∧ SW encF W blk off d wr ∧ Hid (∀ t, m ≤ t → t < i → Fl.key d[t]! < Fl.key d[a]!) ∧ Hid (∀ t, j ≤ t → t < b → Fl.key d[a]! ≤ Fl.key d[t]!) ∧
      W.heap.size < wr.heap.size ∧ wr.cell? ⟨W.heap.size, 0, none⟩ = some (.func (.func g) #[] lb) ∧ wr.cell? ⟨W.heap.size, 1, none⟩ = some (.func (.func sf) #[] sb)) (fun vi vj _ => (intOf vj).toNat - (intOf vi).toNat)
  case atStart => exact ⟨m, b, rfl, rfl, Nat.le_refl _, by omega, Nat.le_refl _, hSW, fun t p q => by omega, fun t p q => by omega, by simp, by simp, by simp⟩
  case round =>
    obtain ⟨i, j, rfl, rfl, hi, hij, hj, hw, hL, hR, hz, hc0, hc1⟩ := hrel
    clear hSW
    by_cases hlt : i < j
    · have hE := E.eg
      have hl := hw.less E.less rfl ((i + j) / 2) a (by omega) (by omega)
      rw [show (((i + j) / 2 : Nat) : Int) = ((i : Int) + j) / 2 by omega] at hl
      have HW := Lib.hid hw
      clear hw
      cases hv : Fl.less d[(i + j) / 2]! d[a]! with
      | true =>
        rw [hv] at hl
        go_wp2_with (go_at_fn g; refine hl.mono ?_; rintro e w1 ⟨rfl, q, rfl⟩)
        go_roundw
        case rel =>
          refine ⟨(i + j) / 2 + 1, j, int_eq (by omega), rfl, by omega, by omega, hj, HW.out.drewN q, fun t p r => ?_, hR, hz, hc0, hc1⟩
          have k1 := (Fl.less_iff _ _).1 hv
          have k2 := h2.out.le t ((i + j) / 2) p (by omega) (by omega)
          omega
        case measure => simp [intOf]; omega
      | false =>
        rw [hv] at hl
        go_wp2_with (go_at_fn g; refine hl.mono ?_; rintro e w1 ⟨rfl, q, rfl⟩)
        go_roundw
        case rel =>
          refine ⟨i, (i + j) / 2, rfl, int_eq (by omega), hi, by omega, by omega, HW.out.drewN q, hL, fun t p r => ?_, hz, hc0, hc1⟩
          have k1 := (Fl.less_not _ _).1 hv
          have k2 := h2.out.le ((i + j) / 2) t (by omega) p r
          omega
        case measure => simp [intOf]; omega
    · obtain rfl : i = j := by omega
      have HW := Lib.hid hw
      clear hw
      go_wp2
      obtain ⟨wo, hwo⟩ : ∃ wo : World, wo = wr := ⟨_, rfl⟩
      subst hwo
      go_loopw [11] (fun vk wr => ∃ (k : Nat) (c : Array Nat), vk = .int .i64 k ∧ a ≤ k ∧ k ≤ i - 1 ∧ SW encF W blk off c wr ∧ Hid (PermIn a b d c) ∧ Hid (Fl.Up a k d c) ∧
        W.heap.size < wr.heap.size ∧ wr.cell? ⟨W.heap.size, 1, none⟩ = some (.func (.func sf) #[] sb)) (fun vk _ => i - (intOf vk).toNat)
      case atStart => exact ⟨a, d, rfl, Nat.le_refl _, by omega, HW.out, permIn_refl _ _ _, Fl.up_start _ _, hz, hc1⟩
      case round =>
        obtain ⟨k, c, rfl, hak, hki, hw, hP, hU, hz2, hc2⟩ := hrel
        by_cases hlt : k < i - 1
        · have hcs : c.size = d.size := hP.out.1
          have hsw := E.swaps wr _ (hw.holds E.inside E.row hcs) hcs k (k + 1) (by omega) (by omega)
          rw [show ((k + 1 : Nat) : Int) = (k : Int) + 1 by omega] at hsw
          have hw2 := hw.swap E.inside k (k + 1) (by omega) (by omega)
          have HW2 := Lib.hid hw2
          clear hw2 hw hcs
          go_wp2
          go_roundw
          case rel =>
            refine ⟨k + 1, _, int_eq (by omega), by omega, by omega, HW2.out, ?_, Fl.up_step a k d c hak (by have := hP.out.1; omega) hU.out, by simpa using hz2, swap_cell (by omega) hc2⟩
            exact permIn_trans _ _ _ _ _ hP.out (swp_permIn _ _ _ _ _ (by omega) (by omega) (by omega) (by omega) (by have := hP.out.1; omega))
          case measure => simp [intOf]; omega
        · have HW2 := Lib.hid hw
          clear hw
          go_wp2
          (try simp only [Exit.inBlock, Exit.then])
          refine bodyPost_ret (results_none rfl _ _ _) rfl ?_
          have hm : m = a + 1 := HM.out
          obtain rfl : k = i - 1 := by omega
          refine ⟨rfl, c, HW2.out, hP.out, Fl.up_end a i b d c (by omega) (by omega) (by rw [← hm]; exact h2.out) hU.out (fun t p r => ?_) (fun t p r => hR.out t p r)⟩
          have := hL.out t (by omega) r
          omega

end Go.Proofs.Ytelhokjjllikhaa
