/-
  DERIVED. The walk of held.places.
-/
import Derived.Test.YtgfimedghidkfaaHl
namespace Go.Proofs.Ytgfimedghidkfaa
open Go.RowKit Go.Maps

theorem i3 : ∃ i : TypeInfo, Try.prog.info? 3 = some i ∧ i.zero = some (.int .i64 0) ∧ i.size = 1 ∧ i.bytes = 8 := by
  have h : (Try.prog.info? 3).map (fun i => (i.zero, i.size, i.bytes)) = some (some (.int .i64 0), 1, 8) := by kernel_rfl
  obtain ⟨i, hi, hz⟩ := Option.map_eq_some_iff.1 h
  simp only [Prod.mk.injEq] at hz
  exact ⟨i, hi, hz.1, hz.2.1, hz.2.2⟩
theorem size3 : (Try.prog.info? 3).map (·.size) = some 1 := by kernel_rfl
theorem make44 (F : Nat) (w : World) (h : F ≤ 1000000) : (Instr.makeSlice 44 (.int .i64 F) (.int .i64 F)).run Try.prog w = .ok (.slice (some ⟨w.heap.size, 0, none⟩) F F) (w.alloc (.cells (ints (zeros F)).toArray 3)) := by
  obtain ⟨i, hi, hz, hs, hb⟩ := i3
  rw [← made_zeros]
  exact run_make_row (P := Try.prog) 44 3 i (.int .i64 0) Try.underlying44 hi hz hs rfl .i64 .i64 F (by rw [hb]; omega) (by omega) w
theorem owns_below {w w2 : World} {m F : Nat} {D : DataW Unit} (h : w.ownsMap Try.prog 3 (plainElem Try.prog 3) m F D) (hm : m < w.heap.size) (hb : Below w.heap.size w w2) : w2.ownsMap Try.prog 3 (plainElem Try.prog 3) m F D := by
  obtain ⟨es, clock, hbm, rest⟩ := h
  exact ⟨es, clock, (hb.block m hm).trans hbm, rest⟩
def plP (w : World) (F : Nat) (c : PC) (e : Ending) (w' : World) : Prop :=
  e = .returned (.slice (some ⟨w.heap.size, 0, none⟩) F F) ∧ Bk w' w.heap.size 3 (ints c.to).toArray ∧ Below w.heap.size w w'

set_option maxHeartbeats 3200000 in
set_option maxRecDepth 100000 in
theorem places_any (F g o : Nat) (c : PC) (far : Option Nat) (w : World) (hr : w.rangeAt g o (hcells c far)) (hg : g < w.heap.size) (hs : (HeldK F).sub w c far) (hF : F ≤ 1000000) :
    Calls Try.prog 28 #[.pointer (some ⟨g, o, none⟩), .int .i64 F] w (plP w F c) := by
  have hmk := make44 F w hF
  have HMK := Lib.hid hmk
  have hb1 : Below w.heap.size w (w.alloc (.cells (ints (zeros F)).toArray 3)) := (Below.refl _ _).alloc (Nat.le_refl _) _
  have HB1 := Lib.hid hb1
  have hrow1 : (w.alloc (.cells (ints (zeros F)).toArray 3)).heap[w.heap.size]? = some (.cells (ints (zeros F)).toArray 3 (0, 0)) := (MapKept.heap_alloc w _).1
  have HR1 := Lib.hid hrow1
  have hl : c.to.length = F := hs.1
  have hcopy : ∀ j v, (ints ((List.range (Nat.min 8 F)).map c.at))[j]? = some v → (w.alloc (.cells (ints (zeros F)).toArray 3)).cell? ((⟨g, o + 2, none⟩ : Addr).add j) = some v := by
    intro j v hj
    unfold ints at hj
    rw [List.getElem?_map, List.getElem?_map] at hj
    have hj8 : j < Nat.min 8 F := by
      rcases Nat.lt_or_ge j (Nat.min 8 F) with h | h
      · exact h
      · rw [List.getElem?_eq_none (by simpa using h)] at hj; simp at hj
    have h8 : j < 8 := Nat.lt_of_lt_of_le hj8 (Nat.min_le_left _ _)
    rw [List.getElem?_range hj8] at hj
    have hv : v = .int .i64 (c.at j) := by simpa using hj.symm
    rw [Addr.add_mid, hb1.cell (p := ⟨g, o + 2 + j, none⟩) hg, hv, Nat.add_assoc]
    exact hr _ _ (hcells_near c far j h8)
  have HC := Lib.hid hcopy
  have HCL : Hid ((ints ((List.range (Nat.min 8 F)).map c.at)).length = Nat.min 8 F) := Lib.hid (by simp [ints])
  have HFIT : Hid (0 + (ints ((List.range (Nat.min 8 F)).map c.at)).length ≤ (ints (zeros F)).length) := Lib.hid (by simp [ints, zeros]; exact Nat.min_le_right _ _)
  have H1 : Hid (∀ v ∈ ints ((List.range (Nat.min 8 F)).map c.at), v.oneCell' = true) := Lib.hid (by intro v hv; obtain ⟨x, _, rfl⟩ := List.mem_map.1 hv; rfl)
  have he10 : w.cell? ⟨g, o + 10, none⟩ = some (.map far) := hr 10 _ rfl
  have HG := Lib.hid hg
  have HL := Lib.hid hl
  cases far with
  | none =>
    have hz8 : ∀ k, 8 ≤ k → c.at k = 0 := hs.2.2
    have HM : Hid (splice (ints (zeros F)) 0 (ints ((List.range (Nat.min 8 F)).map c.at)) = ints c.to) := Lib.hid ((mid_start F c (fun _ => false) (fun j h8 _ _ => hz8 j h8)).trans (by rw [mid_end F c hl]))
    have HE10 := Lib.hid he10
    clear hb1 hrow1 hcopy hs hr hg hl hz8 he10
    go_enter Try.func28, Try.ntmps28
    go_wp2_with (first | (with_reducible refine wpList_copy_splice rfl (.tmp 10) (.tmp 14) 44 44 rfl 3 Try.underlying44 size3 (some ⟨w.heap.size, 0, none⟩) (some ⟨g, o + 2, none⟩) F F 8 8 rfl rfl w.heap.size 0 (ints (zeros F)) 3 HR1.out _ HCL.out (fun _ => ⟨rfl, _, rfl, HC.out⟩) HFIT.out H1.out w.heap.size w HB1.out (Nat.le_refl _) ?_; intro w2 hw2 hb2; have h10 : w2.cell? ⟨g, o + 10, none⟩ = some (.map none) := (hb2.cell (p := ⟨g, o + 10, none⟩) HG.out).trans HE10.out; have HB2 := Lib.hid hb2; have hrg := run_range_nilMap (P := Try.prog) w2 57 3 3 Try.underlying57; have hnx : ∀ ty, (Instr.next (.pointer (some ⟨w2.heap.size, 0, none⟩)) false ty).run Try.prog (w2.alloc (.mapIter none 0 #[] 0)) = _ := fun ty => run_next_nilMap _ ty 0 0 #[]; clear hb2))
    refine wp_loop_rounds 1 ?_
    rw [rounds_succ]
    go_wp2
    go_ret
    have hw := hw2.out
    rw [HM.out] at hw
    exact ⟨rfl, (MapKept.heap_alloc w2 _).2 _ (Array.getElem?_eq_some_iff.1 hw).1 |>.trans hw, HB2.out.alloc HB2.out.size _⟩
  | some m =>
    obtain ⟨D, hown, hD⟩ := hs.2.2
    have hstart : ∀ j, 8 ≤ j → j < F → has D (IK j) = false → c.at j = 0 := fun j h8 hj hh => by
      have := hD.1 j h8 hj
      rw [not_has_at hh] at this
      exact (lit_inj this).symm
    have HM := Lib.hid (mid_start F c (has D) hstart)
    have HE10 := Lib.hid he10
    have HO := Lib.hid hown
    have HD := Lib.hid hD
    have HML := Lib.hid hown.lt
    clear hb1 hrow1 hcopy hs hr hg hl he10 hown hD hstart
    go_enter Try.func28, Try.ntmps28
    go_wp2_with (first | (with_reducible refine wpList_copy_splice rfl (.tmp 10) (.tmp 14) 44 44 rfl 3 Try.underlying44 size3 (some ⟨w.heap.size, 0, none⟩) (some ⟨g, o + 2, none⟩) F F 8 8 rfl rfl w.heap.size 0 (ints (zeros F)) 3 HR1.out _ HCL.out (fun _ => ⟨rfl, _, rfl, HC.out⟩) HFIT.out H1.out w.heap.size w HB1.out (Nat.le_refl _) ?_; intro w2 hw2 hb2; have h10 : w2.cell? ⟨g, o + 10, none⟩ = some (.map (some m)) := (hb2.cell (p := ⟨g, o + 10, none⟩) HG.out).trans HE10.out; have HB2 := Lib.hid hb2; have HO2 := Lib.hid (owns_below HO.out HML.out hb2); clear hb2) | (at_range; refine wpList_range_own _ rfl _ 57 rfl 3 3 law3 Try.underlying57 _ m F D rfl HO2.out ?_; intro w0 hrg0 hg0 hs0; have HRG := Lib.hid hrg0; have HG0 := Lib.hid hg0; clear hrg0 hg0 hs0))
    try go_frame
    have hbk : Bk w2 w.heap.size 3 (ints (mid F c (has D))).toArray := by
      have := hw2.out
      rw [HM.out] at this
      exact this
    have HBK : Hid (Bk w0 w.heap.size 3 (ints (mid F c (has D))).toArray) := Lib.hid ((HG0.out.block _ hbk.lt (by simp)).trans hbk)
    have HB0 : Hid (Below w.heap.size w w0) := Lib.hid (HB2.out.grown HG0.out HB2.out.size (fun j hj => by cases hj))
    have HR2 : Hid (w.heap.size ≤ w2.heap.size) := Lib.hid HB2.out.size
    have HRN : Hid (w.heap.size ≠ w2.heap.size) := Lib.hid (by have := hbk.lt; omega)
    clear hbk hw2 h10
    generalize w2.heap.size = r at HRG HR2 HRN ⊢
    go_loopw [6, 7] (fun _ _ wr => ∃ (left : Lit → Bool) (cnt : Nat), Hid (wr.ranges Try.prog 3 (plainElem Try.prog 3) m r F D left cnt) ∧ Hid (Bk wr w.heap.size 3 (ints (mid F c left)).toArray) ∧ Hid (Below w.heap.size w wr))
      (fun _ _ wr => wr.rangeLeft m r)
    case atStart => exact ⟨_, _, HRG, HBK, HB0⟩
    case round =>
      obtain ⟨left, cnt, hrg, hbk, hnx⟩ := hrel
      go_wp2_with (at_next; refine wpList_next_ranges_ii _ rfl _ rfl 3 3 .i64 .i64 law3 Try.underlying3 Try.underlying3 m r F D left cnt rfl hrg.out ?_ ?_)
      · intro hc0 hl0
        have HL0 := Lib.hid hl0
        clear hc0 hl0
        go_wp2
        go_ret
        have e : left = fun _ => false := funext HL0.out
        have hb := hbk.out
        rw [e, mid_end F c HL.out] at hb
        exact ⟨rfl, hb, hnx.out⟩
      · intro x cc w1 cnt1 hwx hwc hlx hat hrg1 hlt hg1 hs1 hen
        obtain ⟨k, h8, hkF, hxk⟩ := HD.out.2 _ (left_has hrg.out _ hlx)
        obtain rfl : x = (k : Int) := by unfold IK at hxk; injection hxk
        have hck : cc = c.at k := lit_inj ((hat zI).symm.trans (HD.out.1 k h8 hkF))
        subst hck
        have HRG1 := Lib.hid hrg1
        have hbk1 : Bk w1 w.heap.size 3 (ints (mid F c left)).toArray := (hg1.block _ hbk.out.lt (by intro e; injection e with e; exact HRN.out e)).trans hbk.out
        have hf : w1.frozen? ⟨w.heap.size, k, none⟩ = false := hbk1.frozen k
        have hcl : w1.cell? ⟨w.heap.size, k, none⟩ = some (.int .i64 (if 8 ≤ k ∧ left (IK k) = true then 0 else c.at k)) := by
          rw [hbk1.cell, List.getElem?_toArray]
          unfold ints
          rw [List.getElem?_map, mid_get F c left k hkF]; rfl
        have HBK2 : Hid (Bk (w1.setCell ⟨w.heap.size, k, none⟩ (.int .i64 (c.at k))) w.heap.size 3 (ints (mid F c (fun z => left z && !z.sameKey (IK k)))).toArray) := Lib.hid (by
          have := hbk1.set_ k (.int .i64 (c.at k))
          rwa [mid_step F k c left] at this)
        have HNX : Hid (Below w.heap.size w (w1.setCell ⟨w.heap.size, k, none⟩ (.int .i64 (c.at k)))) := Lib.hid ((hnx.out.grown hg1 hnx.out.size (fun j hj => by injection hj with hj; subst hj; exact HR2.out)).setCell (Nat.le_refl _) _)
        have HRG2 : Hid ((w1.setCell ⟨w.heap.size, k, none⟩ (.int .i64 (c.at k))).ranges Try.prog 3 (plainElem Try.prog 3) m r F D (fun z => left z && !z.sameKey (IK k)) cnt1) := Lib.hid (hrg1.kept (grownBy_setC w1 _ _) (by intro e; injection e with e; have := HML.out; have e' : m = w.heap.size := e; omega) (by intro e; injection e with e; exact HRN.out (Eq.symm e)))
        have HLT : Hid ((w1.setCell ⟨w.heap.size, k, none⟩ (.int .i64 (c.at k))).rangeLeft m r < wr.rangeLeft m r) := Lib.hid (by rw [HRG2.out.left_eq, hrg.out.left_eq]; exact hlt)
        have hk0 : (0 : Int) ≤ (k : Int) := Int.natCast_nonneg _
        have hkF' : (k : Int) < (F : Int) := by omega
        clear hwx hwc hlx hat hrg1 hlt hg1 hs1 hxk hbk1
        go_wp2_with fail
        go_roundw
        case rel => exact ⟨_, cnt1, HRG2, HBK2, HNX⟩
        case measure => exact HLT.out
end Go.Proofs.Ytgfimedghidkfaa
