/-
  DERIVED. The walk of Cells.
-/
import Derived.Test.YtocgallcmgnmgaaHu
namespace Go.Proofs.Ytocgallcmgnmgaa
open Go.RowKit Go.Maps

theorem HIs.below {w w' : World} {b : Nat} {R : Nat → Prop} {F : Nat} {cs : List PC} {v : Value} (h : HIs w b R F cs v) (hb : Below w.heap.size w w') : HIs w' b R F cs v :=
  ⟨h.top.below hb h.top.lt, h.out, h.lie.below hb⟩
theorem alloc_below_ (w : World) (o : Obj) : Below w.heap.size w (w.alloc o) := (Below.refl _ _).alloc (Nat.le_refl _) _
theorem Kin.Lie.all {w : World} {R : Nat → Prop} {F : Nat} {v : Value} {cs : List PC} (h : (HeldK F).Lie w R v cs) : ∀ x ∈ cs, x.to.length = F := by
  intro x hx
  rcases h.2 with ⟨_, rfl⟩ | ⟨g, cap, cur, fm, _, ha⟩
  · simp at hx
  · obtain ⟨i, hi⟩ := List.getElem?_of_mem hx
    exact (ha.sub i x hi).1
theorem cut_to (g o F R : Nat) (hR : F ≤ R) (w : World) : (Instr.slice 44 (.slice (some ⟨g, o, none⟩) R R) none (some (.int .i64 F)) (some (.int .i64 F))).run Try.prog w = .ok (.slice (some ⟨g, o, none⟩) F F) w := by
  have h := run_slice_hm (P := Try.prog) (w := w) 44 (some ⟨g, o, none⟩) R R (by rw [show Try.prog.elem 44 = 3 from by kernel_rfl]; exact Try.underlying44) .i64 .i64 (F : Int) (F : Int) (by omega) (Int.le_refl _) (by omega)
  rw [h]
  simp [go_sem, Result.andThen, Addr.add]
theorem und44 : Try.prog.underlying 44 = some (.slice (Try.prog.elem 44)) := by rw [show Try.prog.elem 44 = 3 from by kernel_rfl]; exact Try.underlying44
theorem cut_to' (g o F R : Nat) (hR : F ≤ R) (w : World) : (Instr.sliceAt 44 (.slice (some ⟨g, o, none⟩) R R) none (some (.int .i64 F)) (some (.int .i64 F))).run Try.prog w = .ok (.slice (some ⟨g, o, none⟩) F F) w := by
  rw [run_sliceAt_slice (h := und44)]; exact cut_to g o F R hR w
theorem cut_rest (g o F R : Nat) (hR : F ≤ R) : ∃ q : Nat, (F < R ∨ F = 0 → q = o + F) ∧ ∀ w, (Instr.sliceAt 44 (.slice (some ⟨g, o, none⟩) R R) (some (.int .i64 F)) none none).run Try.prog w = .ok (.slice (some ⟨g, q, none⟩) ((R - F : Nat)) ((R - F : Nat))) w := by
  refine ⟨if R = F then o else o + F, fun h => by split <;> omega, fun w => ?_⟩
  have h := run_slice_l (P := Try.prog) (w := w) 44 (some ⟨g, o, none⟩) R R und44 .i64 (F : Int) (by omega) (by omega)
  rw [run_sliceAt_slice (h := und44), h]
  simp [go_sem, Result.andThen, Addr.add]
  split <;> simp
theorem CellsI.drewN {F k : Nat} {w wr : World} {cs : List PC} (h : CellsI F w wr k cs) (n : Nat) : CellsI F w (wr.drewN n) k cs := ⟨h.row, h.room, below_drewN_ h.below n⟩
theorem CellsI.drew {F k : Nat} {w wr : World} {cs : List PC} (h : CellsI F w wr k cs) : CellsI F w wr.drew k cs := ⟨h.row, h.room, below_drew h.below⟩
theorem make44_of (m : Nat) (w : World) (h : m ≤ 4000000000000) : (Instr.makeSlice 44 (.int .i64 m) (.int .i64 m)).run Try.prog w = .ok (.slice (some ⟨w.heap.size, 0, none⟩) m m) (w.alloc (.cells (ints (zeros m)).toArray 3)) := by
  obtain ⟨i, hi, hz, hs, hb⟩ := i3
  rw [← made_zeros]
  exact run_make_row (P := Try.prog) 44 3 i (.int .i64 0) Try.underlying44 hi hz hs rfl .i64 .i64 m (by rw [hb]; omega) (by omega) w
theorem cells_start2 (F : Nat) (w wr : World) (cs : List PC) (hb : Below w.heap.size w wr) (hs : wr.heap.size = w.heap.size + 1) (hr : Bk wr w.heap.size 46 (Zc cs.length)) : CellsI F w (wr.alloc (.cells (ints (zeros (cs.length * F))).toArray 3)) 0 cs where
  row := ⟨_, hr.below (alloc_below_ wr _) hr.lt, Zc_size _, fun i x hi => by omega⟩
  room := by
    have : rowP (flat (cs.take 0)) (zeros ((cs.length - 0) * F)) [] = (ints (zeros (cs.length * F))).toArray := by simp [rowP, flat]
    rw [this, ← hs]; exact (MapKept.heap_alloc wr _).1
  below := hb.alloc hb.size _

set_option maxHeartbeats 3200000 in
set_option maxRecDepth 100000 in
theorem cells_any (F b : Nat) (R : Nat → Prop) (cs : List PC) (v : Value) (w : World) (h : HIs w b R F cs v) (hF : F ≤ 2000000) (hn : cs.length ≤ 2000000) :
    Calls Try.prog 14 #[hp b] w (CellsP F w cs) := by
  have HALL : Hid (∀ x ∈ cs, x.to.length = F) := Lib.hid h.lie.all
  obtain ⟨p, cap, rfl⟩ := h.lie.form
  have HI := Lib.hid h
  have hMle0 : cs.length * F ≤ 4000000000000 := Nat.mul_le_mul hn hF
  obtain ⟨M, hM⟩ : ∃ M : Nat, M = cs.length * F := ⟨_, rfl⟩
  have hMle : M ≤ 4000000000000 := by rw [hM]; exact hMle0
  have hmul : (cs.length : Int) * (F : Int) = (M : Int) := by rw [hM]; simp
  clear hMle0
  have hw64 : IntKind.i64.wrap (M : Int) = (M : Int) := by
    clear hmul hM
    exact IntWalk.i64_in _ ⟨by omega, by omega⟩
  have hmk := make23 cs.length w hn
  have hmk2 := fun w => make44_of M w hMle
  have c1 : w.cell? ⟨b, 1, none⟩ = some (.int .i64 F) := h.top.cell 1
  have c2 : w.cell? ⟨b, 2, none⟩ = some (.slice p cs.length cap) := h.top.cell 2
  have hbl := h.top.lt
  have hz : Bk (w.alloc (.cells (Zc cs.length) 46)) w.heap.size 46 (Zc cs.length) := (MapKept.heap_alloc w _).1
  have hst := cells_start2 F w (w.alloc (.cells (Zc cs.length) 46)) cs (alloc_below_ w _) (by simp) hz
  rw [← hM] at hst
  have HST := Lib.hid hst
  have HMM := Lib.hid hM
  clear h hst hz hM hMle
  unfold hp at ⊢
  go_enter Try.func14, Try.ntmps14
  go_wp2_with fail
  have d1 : (w.alloc (.cells (Zc cs.length) 46)).cell? ⟨b, 1, none⟩ = some (.int .i64 F) := ((alloc_below_ w _).cell (p := ⟨b, 1, none⟩) hbl).trans c1
  have d2 : (w.alloc (.cells (Zc cs.length) 46)).cell? ⟨b, 2, none⟩ = some (.slice p cs.length cap) := ((alloc_below_ w _).cell (p := ⟨b, 2, none⟩) hbl).trans c2
  clear hmk c1 c2
  go_region
  have HS0 : Hid (CellsI F w ((w.alloc (.cells (Zc cs.length) 46)).alloc (.cells (ints (zeros M)).toArray 3)).drew 0 cs) := Lib.hid HST.out.drew
  have HR0 : Hid (M = (cs.length - 0) * F) := Lib.hid (by rw [Nat.sub_zero]; exact HMM.out)
  have hn0 : (0 : Int) ≤ (cs.length : Int) := Int.natCast_nonneg _
  clear d1 d2 hmk2 HST hmul hw64
  go_wp2_with fail
  generalize ((w.alloc (.cells (Zc cs.length) 46)).alloc (.cells (ints (zeros M)).toArray 3)).drew = w1 at HS0 ⊢
  go_loopw [4, 29] (fun rm i wr => ∃ k q Rm : Nat, i = .int .i64 k ∧ rm = .slice (some ⟨w.heap.size + 1, q, none⟩) Rm Rm ∧ k ≤ cs.length ∧ Hid (Rm = (cs.length - k) * F) ∧ Hid (k < cs.length → q = k * F) ∧ Hid (CellsI F w wr k cs)) (fun _ i _ => cs.length - (intOf i).toNat)
  case atStart => exact ⟨0, 0, M, rfl, rfl, Nat.zero_le _, HR0, Lib.hid (fun _ => by simp), HS0⟩
  case round =>
    obtain ⟨k, q, Rm, rfl, rfl, hk, HRM, HQ, HAT⟩ := hrel
    by_cases hkl : k < cs.length
    · obtain ⟨x, hx⟩ : ∃ x, cs[k]? = some x := ⟨_, List.getElem?_eq_getElem hkl⟩
      obtain rfl : q = k * F := HQ.out hkl
      have hRF : Hid (F ≤ Rm) := Lib.hid (by rw [HRM.out]; exact Nat.le_mul_of_pos_left F (by omega))
      obtain ⟨g, cap', cur, fm, ev, ha0⟩ := At.sl HI.out.lie hx
      obtain ⟨rfl, rfl⟩ : p = some ⟨g, 0, none⟩ ∧ cap = cap' := by injection ev with e1 e2 e3; exact ⟨e1, e3⟩
      have hgl : g < w.heap.size := ha0.row.lt
      have hB := Lib.hid HAT.out.below
      have ha := fun wz (hz : Below w.heap.size w wz) => ha0.gr (Gr.of_below (S := fun _ => False) hz) (fun _ _ h => h)
      have hfm : fm k ≠ some (w.heap.size + 1) := fun e => by
        have := HI.out.lie.1 _ (ha0.own k _ hkl e).1; omega
      have hgB : g ≠ w.heap.size + 1 := by omega
      have c2 : wr.cell? ⟨b, 2, none⟩ = some (.slice (some ⟨g, 0, none⟩) cs.length cap) := (HI.out.below hB.out).top.cell 2
      have c1 : wr.cell? ⟨b, 1, none⟩ = some (.int .i64 F) := (HI.out.below hB.out).top.cell 1
      have HPL := Lib.hid (fun wz (hz : CellsI F w wz k cs) => places_any F g (k * 11) (w.heap.size + 1) x (fm k) (flat (cs.take k)) (zeros ((cs.length - (k + 1)) * F)) wz ((ha wz hz.below).range hx) (Nat.lt_of_lt_of_le hgl hz.below.size) hgB hfm ((ha wz hz.below).sub k x hx) (hz.room_at hkl))
      have HITM := Lib.hid (fun wz (hz : Below w.heap.size w wz) => And.intro ((ha wz hz).at_cell hx 0 _ rfl) ((ha wz hz).at_cell hx 1 _ rfl))
      have HCI := Lib.hid (fun w2 (hp : Bk w2 (w.heap.size + 1) 3 (rowP (flat (cs.take k)) x.to (zeros ((cs.length - (k + 1)) * F)))) wz (hz : CellsI F w wz k cs) (hg : Gr wz w2 (fun k => k = w.heap.size + 1)) => hz.next hx hp hg)
      have hfl : (flat (cs.take k)).length = k * F := by
        rw [flat_len (F := F) (fun y hy => HALL.out y (List.mem_of_mem_take hy)), List.length_take, Nat.min_eq_left hk]
      rw [hfl] at HPL
      have hcut := fun wz => cut_to (w.heap.size + 1) (k * F) F Rm hRF.out wz
      have hcut' := fun wz => cut_to' (w.heap.size + 1) (k * F) F Rm hRF.out wz
      obtain ⟨q2, hq2, hrest⟩ := cut_rest (w.heap.size + 1) (k * F) F Rm hRF.out
      have HR2 : Hid (Rm - F = (cs.length - (k + 1)) * F) := Lib.hid (by rw [HRM.out, show cs.length - k = (cs.length - (k + 1)) + 1 by omega, Nat.succ_mul]; omega)
      have HQ2 : Hid (k + 1 < cs.length → q2 = (k + 1) * F) := Lib.hid (fun h => by
        rw [Nat.succ_mul]
        refine hq2 ?_
        rcases Nat.eq_zero_or_pos F with h0 | h0
        · exact .inr h0
        · left
          have h1 : Rm - F = (cs.length - (k + 1)) * F := HR2.out
          have h2 : F ≤ (cs.length - (k + 1)) * F := Nat.le_mul_of_pos_left F (by omega)
          omega)
      clear hq2
      generalize Rm - F = Rn at hrest HR2
      have hk0 : (0 : Int) ≤ (k : Int) := Int.natCast_nonneg _
      have hk1 : (k : Int) < (cs.length : Int) := by omega
      clear ha hfm hgB ev ha0 hfl hx hcut
      go_wp2_with fail
      go_quiet (fail)
      go_wp2_with (go_at_call 28; refine (HPL.out _ (HAT.out.drewN _)).mono ?_; rintro e w2 ⟨rfl, hp2, hg2⟩; obtain ⟨⟨u0, u1, u2, hu0, hu1, hu2⟩, hfz, HZ⟩ := HCI.out w2.drew hp2 _ (HAT.out.drewN _) hg2.drew; obtain ⟨e0, e1⟩ := HITM.out w2 ((HAT.out.drewN _).below.trans (hg2.below hB.out.size (fun k e => by subst e; omega))); have hf0 := hfz (k * 3); have hf1 := hfz (k * 3 + 1); have hf2 := hfz (k * 3 + 2); have HG2 := Lib.hid hg2; clear hp2 hfz hg2)
      have e0' : w2.cell? ⟨g, k * 11, none⟩ = some (.int .i64 x.ty) := e0
      have e1' : w2.cell? ⟨g, k * 11 + 1, none⟩ = some (.bool x.fr) := e1
      have g0 : w2.cell? ⟨w.heap.size, k * 3, none⟩ = some u0 := hu0
      have g1 : w2.cell? ⟨w.heap.size, k * 3 + 1, none⟩ = some u1 := hu1
      have g2 : w2.cell? ⟨w.heap.size, k * 3 + 2, none⟩ = some u2 := hu2
      have f0 : w2.frozen? ⟨w.heap.size, k * 3, none⟩ = false := hf0
      have f1 : w2.frozen? ⟨w.heap.size, k * 3 + 1, none⟩ = false := hf1
      have f2 : w2.frozen? ⟨w.heap.size, k * 3 + 2, none⟩ = false := hf2
      clear e0 e1 hcut' hrest hu0 hu1 hu2 hf0 hf1 hf2
      go_still_tail 13, (by kernel_rfl)
      change wpList _ _ _ _ _ w2.drew
      go_wp2_with fail
      go_roundw
      case rel => exact ⟨k + 1, q2, Rn, by go_num, rfl, by omega, HR2, HQ2, HZ⟩
      case measure => simp [intOf]; omega
    · have hke : k = cs.length := by omega
      have HE : Hid (CellsP F w cs (.returned (.slice (some ⟨w.heap.size, 0, none⟩) cs.length cs.length)) wr) := Lib.hid (by have := HAT.out; rw [hke] at this; exact this.end_ HALL.out)
      clear hke
      go_wp2_with fail
      go_ret
      exact HE.out
end Go.Proofs.Ytocgallcmgnmgaa
