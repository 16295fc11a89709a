/-
  Cells as they are handed out: their places lie in one row. The walk of Cells. New; heaps that no call made; a heap of a law's own. How what is handed in reads. The document's heap: There, fault, New, Get. The document's heap, copied: Own. The document's heap: one cell more. The document's heap: Put,
-/
import Derived.Test.YtebmhadpkncgfaaDoorM01
import Derived.SizedLaws
import Derived.ChangeArms
import Derived.Deep.Cut
set_option maxHeartbeats 40000000
set_option maxRecDepth 100000
namespace Go.Proofs.YtebmhadpkncgfaaDoor
open Go.RowKit Go.Maps
/-- Cells that were handed out, as they read: all of them in blocks of N. -/
def OutR (F : Nat) (w : World) (N : Nat → Prop) (v : Value) (cs : List PC) : Prop :=
  ∃ p cap, v = .slice p cs.length cap ∧ (∀ k, N k → k < w.heap.size) ∧ ∀ i x, cs[i]? = some x → ∃ g q o cq, p = some ⟨g, 0, none⟩ ∧ N g ∧ N q ∧
    w.rangeAt g (i * 3) [.int .i64 x.ty, .bool x.fr, .slice (some ⟨q, o, none⟩) F cq] ∧ w.rangeAt q o (ints x.to) ∧ x.to.length = F
theorem OutR.gr {F : Nat} {w w' : World} {N S : Nat → Prop} {v : Value} {cs : List PC} (h : OutR F w N v cs) (hg : Gr w w' S) (hS : ∀ k, N k → ¬ S k) : OutR F w' N v cs := by
  obtain ⟨p, cap, hv, hN, hx⟩ := h
  refine ⟨p, cap, hv, fun k hk => Nat.lt_of_lt_of_le (hN k hk) hg.size, fun i x hi => ?_⟩
  obtain ⟨g, q, o, cq, h1, h2, h3, h4, h5, h6⟩ := hx i x hi
  exact ⟨g, q, o, cq, h1, h2, h3, hg.range h4 (hS g h2), hg.range h5 (hS q h3), h6⟩
theorem OutR.below {F : Nat} {w w' : World} {N : Nat → Prop} {v : Value} {cs : List PC} (h : OutR F w N v cs) (hb : Below w.heap.size w w') : OutR F w' N v cs := h.gr (Gr.of_below (S := fun _ => False) hb) (fun _ _ h => h)
theorem OutR.form {F : Nat} {w : World} {N : Nat → Prop} {v : Value} {cs : List PC} (h : OutR F w N v cs) : ∃ p cap, v = .slice p cs.length cap := by
  obtain ⟨p, cap, hv, _⟩ := h
  exact ⟨p, cap, hv⟩
/-- All places, one cell behind the other. -/
def flat (cs : List PC) : List Int := cs.flatMap (·.to)
theorem flat_len {F : Nat} {cs : List PC} (h : ∀ x ∈ cs, x.to.length = F) : (flat cs).length = cs.length * F := by
  induction cs with
  | nil => simp [flat]
  | cons x cs ih =>
    have h1 := ih (fun y hy => h y (List.mem_cons_of_mem _ hy))
    have h2 := h x List.mem_cons_self
    unfold flat at h1 ⊢
    rw [List.flatMap_cons, List.length_append, h1, h2, List.length_cons, Nat.succ_mul]; omega
theorem flat_get {F : Nat} {cs : List PC} (h : ∀ x ∈ cs, x.to.length = F) {i : Nat} {x : PC} (hi : cs[i]? = some x) {j : Nat} (hj : j < F) : (flat cs)[i * F + j]? = x.to[j]? := by
  induction cs generalizing i with
  | nil => simp at hi
  | cons y cs ih =>
    have h1 := h y List.mem_cons_self
    unfold flat at ih ⊢
    rw [List.flatMap_cons]
    cases i with
    | zero =>
      simp at hi; subst hi
      rw [Nat.zero_mul, Nat.zero_add, List.getElem?_append_left (by omega)]
    | succ i =>
      simp at hi
      rw [List.getElem?_append_right (by rw [Nat.succ_mul]; omega), h1, show (i + 1) * F + j - F = i * F + j by rw [Nat.succ_mul]; omega]
      exact ih (fun y hy => h y (List.mem_cons_of_mem _ hy)) hi
theorem flat_snoc (cs : List PC) (x : PC) : flat (cs ++ [x]) = flat cs ++ x.to := by simp [flat]
theorem zeros_add (m n : Nat) : zeros (m + n) = zeros m ++ zeros n := by simp [zeros, List.replicate_append_replicate]
/-- Cells under way: k of them are there. -/
structure CellsI (F : Nat) (w wr : World) (k : Nat) (cs : List PC) : Prop where
  row : ∃ cur, Bk wr w.heap.size 85 cur ∧ cur.size = cs.length * 3 ∧ ∀ i x, i < k → cs[i]? = some x → ∀ j v, ([.int .i64 x.ty, .bool x.fr, .slice (some ⟨w.heap.size + 1, i * F, none⟩) F F] : List Value)[j]? = some v → cur[i * 3 + j]? = some v
  room : Bk wr (w.heap.size + 1) 3 (rowP (flat (cs.take k)) (zeros ((cs.length - k) * F)) [])
  below : Below w.heap.size w wr
/-- What Cells hands out. -/
def CellsP (F : Nat) (w : World) (cs : List PC) (e : Ending) (w' : World) : Prop :=
  ∃ v, e = .returned v ∧ OutR F w' (fun k => w.heap.size ≤ k ∧ k < w'.heap.size) v cs ∧ Below w.heap.size w w'
theorem CellsI.end_ {F : Nat} {w wr : World} {cs : List PC} (h : CellsI F w wr cs.length cs) (hF : ∀ x ∈ cs, x.to.length = F) : CellsP F w cs (.returned (.slice (some ⟨w.heap.size, 0, none⟩) cs.length cs.length)) wr := by
  obtain ⟨cur, hb, hs, hc⟩ := h.row
  refine ⟨_, rfl, ⟨_, _, rfl, fun k hk => hk.2, fun i x hi => ?_⟩, h.below⟩
  have hil : i < cs.length := (List.getElem?_eq_some_iff.1 hi).1
  refine ⟨w.heap.size, w.heap.size + 1, i * F, F, rfl, ⟨Nat.le_refl _, hb.lt⟩, ⟨Nat.le_succ _, h.room.lt⟩, fun j v hv => ?_, fun j v hv => ?_, hF x (List.mem_of_getElem? hi)⟩
  · rw [hb.cell]; exact hc i x hil hi j v hv
  · have hj : j < F := by
      have := (List.getElem?_eq_some_iff.1 hv).1
      have h2 := hF x (List.mem_of_getElem? hi)
      simp [ints] at this; omega
    have hr := h.room
    rw [List.take_length, Nat.sub_self, Nat.zero_mul] at hr
    rw [hr.cell]
    have : rowP (flat cs) (zeros 0) [] = (ints (flat cs)).toArray := by simp [rowP, zeros]
    rw [this, List.getElem?_toArray]
    unfold ints at hv ⊢
    rw [List.getElem?_map, flat_get hF hi hj, ← List.getElem?_map]
    exact hv
/-- How the room lies ahead of the next cell. -/
theorem CellsI.room_at {F : Nat} {w wr : World} {cs : List PC} {k : Nat} (h : CellsI F w wr k cs) (hk : k < cs.length) : Bk wr (w.heap.size + 1) 3 (rowP (flat (cs.take k)) (zeros F) (zeros ((cs.length - (k + 1)) * F))) := by
  have hr := h.room
  have : rowP (flat (cs.take k)) (zeros ((cs.length - k) * F)) [] = rowP (flat (cs.take k)) (zeros F) (zeros ((cs.length - (k + 1)) * F)) := by
    unfold rowP
    rw [show cs.length - k = (cs.length - (k + 1)) + 1 by omega, Nat.succ_mul, Nat.add_comm, zeros_add, List.append_nil]
  rwa [this] at hr
/-- Behind the places of the next cell, and the three stores. -/
theorem CellsI.next {F : Nat} {w wr w2 : World} {cs : List PC} {k : Nat} {x : PC} (h : CellsI F w wr k cs) (hx : cs[k]? = some x)
    (hp : Bk w2 (w.heap.size + 1) 3 (rowP (flat (cs.take k)) x.to (zeros ((cs.length - (k + 1)) * F)))) (hg : Gr wr w2 (fun k => k = w.heap.size + 1)) :
    (∃ u0 u1 u2, w2.cell? ⟨w.heap.size, k * 3, none⟩ = some u0 ∧ w2.cell? ⟨w.heap.size, k * 3 + 1, none⟩ = some u1 ∧ w2.cell? ⟨w.heap.size, k * 3 + 2, none⟩ = some u2) ∧ (∀ j, w2.frozen? ⟨w.heap.size, j, none⟩ = false) ∧
    Hid (CellsI F w (((w2.setCell ⟨w.heap.size, k * 3, none⟩ (.int .i64 x.ty)).setCell ⟨w.heap.size, k * 3 + 1, none⟩ (.bool x.fr)).setCell ⟨w.heap.size, k * 3 + 2, none⟩ (.slice (some ⟨w.heap.size + 1, k * F, none⟩) F F)) (k + 1) cs) := by
  obtain ⟨cur, hb, hs, hc⟩ := h.row
  have hk : k < cs.length := (List.getElem?_eq_some_iff.1 hx).1
  have hb2 : Bk w2 w.heap.size 85 cur := hg.bk hb (by omega)
  have hsz : k * 3 + 3 ≤ cur.size := by have := Nat.mul_le_mul_right 3 (Nat.succ_le_of_lt hk); omega
  have hbl2 : Below w.heap.size w w2 := h.below.trans (hg.below (Nat.le_trans h.below.size (Nat.le_refl _)) (fun k e => by subst e; omega))
  refine ⟨⟨cur[k * 3], cur[k * 3 + 1], cur[k * 3 + 2], ?_, ?_, ?_⟩, fun j => hb2.frozen j, hdn ⟨⟨_, ((hb2.set_ _ _).set_ _ _).set_ _ _, by simpa using hs, fun i y hi hy j v hv => ?_⟩, ?_, ?_⟩⟩
  · rw [hb2.cell]; exact Array.getElem?_eq_getElem (by omega)
  · rw [hb2.cell]; exact Array.getElem?_eq_getElem (by omega)
  · rw [hb2.cell]; exact Array.getElem?_eq_getElem (by omega)
  · have hj : j < 3 := (List.getElem?_eq_some_iff.1 hv).1
    by_cases e : i = k
    · subst e
      obtain rfl : x = y := by rw [hx] at hy; injection hy
      match j, hj with
      | 0, _ => simp at hv; subst hv; simp [Array.getElem?_setIfInBounds]; omega
      | 1, _ => simp at hv; subst hv; simp [Array.getElem?_setIfInBounds]; omega
      | 2, _ => simp at hv; subst hv; simp [Array.getElem?_setIfInBounds]; omega
    · have hik : i < k := by omega
      rw [Array.getElem?_setIfInBounds, if_neg (by omega), Array.getElem?_setIfInBounds, if_neg (by omega), Array.getElem?_setIfInBounds, if_neg (by omega)]
      exact hc i y hik hy j v hv
  · have ht : flat (cs.take (k + 1)) = flat (cs.take k) ++ x.to := by rw [List.take_add_one, hx]; exact flat_snoc _ _
    have e : rowP (flat (cs.take (k + 1))) (zeros ((cs.length - (k + 1)) * F)) [] = rowP (flat (cs.take k)) x.to (zeros ((cs.length - (k + 1)) * F)) := by
      unfold rowP; rw [ht, List.append_nil, List.append_assoc]
    rw [e]
    exact ((hp.far (p := ⟨w.heap.size, _, none⟩) (by simp) _).far (p := ⟨w.heap.size, _, none⟩) (by simp) _).far (p := ⟨w.heap.size, _, none⟩) (by simp) _
  · exact ((hbl2.setCell (Nat.le_refl _) _).setCell (Nat.le_refl _) _).setCell (Nat.le_refl _) _
end Go.Proofs.YtebmhadpkncgfaaDoor
namespace Go.Proofs.YtebmhadpkncgfaaDoor
open Go.RowKit Go.Maps
theorem HIs.below {w w' : World} {b : Nat} {R : Nat → Prop} {F : Nat} {cs : List PC} {v : Value} (h : HIs w b R F cs v) (hb : Below w.heap.size w w') : HIs w' b R F cs v :=
  ⟨h.top.below hb h.top.lt, h.out, h.lie.below hb⟩
theorem alloc_below_ (w : World) (o : Obj) : Below w.heap.size w (w.alloc o) := (Below.refl _ _).alloc (Nat.le_refl _) _
theorem Kin.Lie.all {w : World} {R : Nat → Prop} {F : Nat} {v : Value} {cs : List PC} (h : (HeldK F).Lie w R v cs) : ∀ x ∈ cs, x.to.length = F := by
  intro x hx
  rcases h.2 with ⟨_, rfl⟩ | ⟨g, cap, cur, fm, _, ha⟩
  · simp at hx
  · obtain ⟨i, hi⟩ := List.getElem?_of_mem hx
    exact (ha.sub i x hi).1
theorem cut_to (g o F R : Nat) (hR : F ≤ R) (w : World) : (Instr.slice 28 (.slice (some ⟨g, o, none⟩) R R) none (some (.int .i64 F)) (some (.int .i64 F))).run Tryd.prog w = .ok (.slice (some ⟨g, o, none⟩) F F) w := by
  have h := run_slice_hm (P := Tryd.prog) (w := w) 28 (some ⟨g, o, none⟩) R R (by rw [show Tryd.prog.elem 28 = 3 from by kernel_rfl]; exact Tryd.underlying28) .i64 .i64 (F : Int) (F : Int) (by omega) (Int.le_refl _) (by omega)
  rw [h]
  simp [go_sem, Result.andThen, Addr.add]
theorem und44 : Tryd.prog.underlying 28 = some (.slice (Tryd.prog.elem 28)) := by rw [show Tryd.prog.elem 28 = 3 from by kernel_rfl]; exact Tryd.underlying28
theorem cut_to' (g o F R : Nat) (hR : F ≤ R) (w : World) : (Instr.sliceAt 28 (.slice (some ⟨g, o, none⟩) R R) none (some (.int .i64 F)) (some (.int .i64 F))).run Tryd.prog w = .ok (.slice (some ⟨g, o, none⟩) F F) w := by
  rw [run_sliceAt_slice (h := und44)]; exact cut_to g o F R hR w
theorem cut_rest (g o F R : Nat) (hR : F ≤ R) : ∃ q : Nat, (F < R ∨ F = 0 → q = o + F) ∧ ∀ w, (Instr.sliceAt 28 (.slice (some ⟨g, o, none⟩) R R) (some (.int .i64 F)) none none).run Tryd.prog w = .ok (.slice (some ⟨g, q, none⟩) ((R - F : Nat)) ((R - F : Nat))) w := by
  refine ⟨if R = F then o else o + F, fun h => by split <;> omega, fun w => ?_⟩
  have h := run_slice_l (P := Tryd.prog) (w := w) 28 (some ⟨g, o, none⟩) R R und44 .i64 (F : Int) (by omega) (by omega)
  rw [run_sliceAt_slice (h := und44), h]
  simp [go_sem, Result.andThen, Addr.add]
  split <;> simp
theorem CellsI.drewN {F k : Nat} {w wr : World} {cs : List PC} (h : CellsI F w wr k cs) (n : Nat) : CellsI F w (wr.drewN n) k cs := ⟨h.row, h.room, below_drewN_ h.below n⟩
theorem CellsI.drew {F k : Nat} {w wr : World} {cs : List PC} (h : CellsI F w wr k cs) : CellsI F w wr.drew k cs := ⟨h.row, h.room, below_drew h.below⟩
theorem make44_of (m : Nat) (w : World) (h : m ≤ 4000000000000) : (Instr.makeSlice 28 (.int .i64 m) (.int .i64 m)).run Tryd.prog w = .ok (.slice (some ⟨w.heap.size, 0, none⟩) m m) (w.alloc (.cells (ints (zeros m)).toArray 3)) := by
  obtain ⟨i, hi, hz, hs, hb⟩ := i3
  rw [← made_zeros]
  exact run_make_row (P := Tryd.prog) 28 3 i (.int .i64 0) Tryd.underlying28 hi hz hs rfl .i64 .i64 m (by rw [hb]; omega) (by omega) w
theorem cells_start2 (F : Nat) (w wr : World) (cs : List PC) (hb : Below w.heap.size w wr) (hs : wr.heap.size = w.heap.size + 1) (hr : Bk wr w.heap.size 85 (Zc cs.length)) : CellsI F w (wr.alloc (.cells (ints (zeros (cs.length * F))).toArray 3)) 0 cs where
  row := ⟨_, hr.below (alloc_below_ wr _) hr.lt, Zc_size _, fun i x hi => by omega⟩
  room := by
    have : rowP (flat (cs.take 0)) (zeros ((cs.length - 0) * F)) [] = (ints (zeros (cs.length * F))).toArray := by simp [rowP, flat]
    rw [this, ← hs]; exact (MapKept.heap_alloc wr _).1
  below := hb.alloc hb.size _
theorem cells_any (F b : Nat) (R : Nat → Prop) (cs : List PC) (v : Value) (w : World) (h : HIs w b R F cs v) (hF : F ≤ 2000000) (hn : cs.length ≤ 2000000) :
    Calls Tryd.prog 38 #[hp b] w (CellsP F w cs) := by
  have HALL : Hid (∀ x ∈ cs, x.to.length = F) := hdn h.lie.all
  obtain ⟨p, cap, rfl⟩ := h.lie.form
  have HI := hdn h
  have hMle0 : cs.length * F ≤ 4000000000000 := Nat.mul_le_mul hn hF
  obtain ⟨M, hM⟩ : ∃ M : Nat, M = cs.length * F := ⟨_, rfl⟩
  have hMle : M ≤ 4000000000000 := by rw [hM]; exact hMle0
  have hmul : (cs.length : Int) * (F : Int) = (M : Int) := by rw [hM]; simp
  clear hMle0
  have hw64 : IntKind.i64.wrap (M : Int) = (M : Int) := by
    clear hmul hM
    exact IntWalk.i64_in _ ⟨by omega, by omega⟩
  have hmk := make23 cs.length w hn
  have hmk2 := fun w => make44_of M w hMle
  have c1 : w.cell? ⟨b, 1, none⟩ = some (.int .i64 F) := h.top.cell 1
  have c2 : w.cell? ⟨b, 2, none⟩ = some (.slice p cs.length cap) := h.top.cell 2
  have hbl := h.top.lt
  have hz : Bk (w.alloc (.cells (Zc cs.length) 85)) w.heap.size 85 (Zc cs.length) := (MapKept.heap_alloc w _).1
  have hst := cells_start2 F w (w.alloc (.cells (Zc cs.length) 85)) cs (alloc_below_ w _) (by simp) hz
  rw [← hM] at hst
  have HST := hdn hst
  have HMM := hdn hM
  clear h hst hz hM hMle
  unfold hp at ⊢
  go_enter Tryd.func38, Tryd.ntmps38
  go_wp2_with fail
  have d1 : (w.alloc (.cells (Zc cs.length) 85)).cell? ⟨b, 1, none⟩ = some (.int .i64 F) := ((alloc_below_ w _).cell (p := ⟨b, 1, none⟩) hbl).trans c1
  have d2 : (w.alloc (.cells (Zc cs.length) 85)).cell? ⟨b, 2, none⟩ = some (.slice p cs.length cap) := ((alloc_below_ w _).cell (p := ⟨b, 2, none⟩) hbl).trans c2
  clear hmk c1 c2
  go_region
  have HS0 : Hid (CellsI F w ((w.alloc (.cells (Zc cs.length) 85)).alloc (.cells (ints (zeros M)).toArray 3)).drew 0 cs) := hdn HST.out.drew
  have HR0 : Hid (M = (cs.length - 0) * F) := hdn (by rw [Nat.sub_zero]; exact HMM.out)
  have hn0 : (0 : Int) ≤ (cs.length : Int) := Int.natCast_nonneg _
  clear d1 d2 hmk2 HST hmul hw64
  go_wp2_with fail
  generalize ((w.alloc (.cells (Zc cs.length) 85)).alloc (.cells (ints (zeros M)).toArray 3)).drew = w1 at HS0 ⊢
  go_loopw [4, 29] (fun rm i wr => ∃ k q Rm : Nat, i = .int .i64 k ∧ rm = .slice (some ⟨w.heap.size + 1, q, none⟩) Rm Rm ∧ k ≤ cs.length ∧ Hid (Rm = (cs.length - k) * F) ∧ Hid (k < cs.length → q = k * F) ∧ Hid (CellsI F w wr k cs)) (fun _ i _ => cs.length - (intOf i).toNat)
  case atStart => exact ⟨0, 0, M, rfl, rfl, Nat.zero_le _, HR0, hdn (fun _ => by simp), HS0⟩
  case round =>
    obtain ⟨k, q, Rm, rfl, rfl, hk, HRM, HQ, HAT⟩ := hrel
    by_cases hkl : k < cs.length
    · obtain ⟨x, hx⟩ : ∃ x, cs[k]? = some x := ⟨_, List.getElem?_eq_getElem hkl⟩
      obtain rfl : q = k * F := HQ.out hkl
      have hRF : Hid (F ≤ Rm) := hdn (by rw [HRM.out]; exact Nat.le_mul_of_pos_left F (by omega))
      obtain ⟨g, cap', cur, fm, ev, ha0⟩ := At.sl HI.out.lie hx
      obtain ⟨rfl, rfl⟩ : p = some ⟨g, 0, none⟩ ∧ cap = cap' := by injection ev with e1 e2 e3; exact ⟨e1, e3⟩
      have hgl : g < w.heap.size := ha0.row.lt
      have hB := hdn HAT.out.below
      have ha := fun wz (hz : Below w.heap.size w wz) => ha0.gr (Gr.of_below (S := fun _ => False) hz) (fun _ _ h => h)
      have hfm : fm k ≠ some (w.heap.size + 1) := fun e => by
        have := HI.out.lie.1 _ (ha0.own k _ hkl e).1; omega
      have hgB : g ≠ w.heap.size + 1 := by omega
      have c2 : wr.cell? ⟨b, 2, none⟩ = some (.slice (some ⟨g, 0, none⟩) cs.length cap) := (HI.out.below hB.out).top.cell 2
      have c1 : wr.cell? ⟨b, 1, none⟩ = some (.int .i64 F) := (HI.out.below hB.out).top.cell 1
      have HPL := hdn (fun wz (hz : CellsI F w wz k cs) => places_any F g (k * 11) (w.heap.size + 1) x (fm k) (flat (cs.take k)) (zeros ((cs.length - (k + 1)) * F)) wz ((ha wz hz.below).range hx) (Nat.lt_of_lt_of_le hgl hz.below.size) hgB hfm ((ha wz hz.below).sub k x hx) (hz.room_at hkl))
      have HITM := hdn (fun wz (hz : Below w.heap.size w wz) => And.intro ((ha wz hz).at_cell hx 0 _ rfl) ((ha wz hz).at_cell hx 1 _ rfl))
      have HCI := hdn (fun w2 (hp : Bk w2 (w.heap.size + 1) 3 (rowP (flat (cs.take k)) x.to (zeros ((cs.length - (k + 1)) * F)))) wz (hz : CellsI F w wz k cs) (hg : Gr wz w2 (fun k => k = w.heap.size + 1)) => hz.next hx hp hg)
      have hfl : (flat (cs.take k)).length = k * F := by
        rw [flat_len (F := F) (fun y hy => HALL.out y (List.mem_of_mem_take hy)), List.length_take, Nat.min_eq_left hk]
      rw [hfl] at HPL
      have hcut := fun wz => cut_to (w.heap.size + 1) (k * F) F Rm hRF.out wz
      have hcut' := fun wz => cut_to' (w.heap.size + 1) (k * F) F Rm hRF.out wz
      obtain ⟨q2, hq2, hrest⟩ := cut_rest (w.heap.size + 1) (k * F) F Rm hRF.out
      have HR2 : Hid (Rm - F = (cs.length - (k + 1)) * F) := hdn (by rw [HRM.out, show cs.length - k = (cs.length - (k + 1)) + 1 by omega, Nat.succ_mul]; omega)
      have HQ2 : Hid (k + 1 < cs.length → q2 = (k + 1) * F) := hdn (fun h => by
        rw [Nat.succ_mul]
        refine hq2 ?_
        rcases Nat.eq_zero_or_pos F with h0 | h0
        · exact .inr h0
        · left
          have h1 : Rm - F = (cs.length - (k + 1)) * F := HR2.out
          have h2 : F ≤ (cs.length - (k + 1)) * F := Nat.le_mul_of_pos_left F (by omega)
          omega)
      clear hq2
      generalize Rm - F = Rn at hrest HR2
      have hk0 : (0 : Int) ≤ (k : Int) := Int.natCast_nonneg _
      have hk1 : (k : Int) < (cs.length : Int) := by omega
      clear ha hfm hgB ev ha0 hfl hx hcut
      go_wp2_with fail
      go_quiet (fail)
      go_wp2_with (go_at_call 67; refine (HPL.out _ (HAT.out.drewN _)).mono ?_; rintro e w2 ⟨rfl, hp2, hg2⟩; obtain ⟨⟨u0, u1, u2, hu0, hu1, hu2⟩, hfz, HZ⟩ := HCI.out w2.drew hp2 _ (HAT.out.drewN _) hg2.drew; obtain ⟨e0, e1⟩ := HITM.out w2 ((HAT.out.drewN _).below.trans (hg2.below hB.out.size (fun k e => by subst e; omega))); have hf0 := hfz (k * 3); have hf1 := hfz (k * 3 + 1); have hf2 := hfz (k * 3 + 2); have HG2 := hdn hg2; clear hp2 hfz hg2)
      have e0' : w2.cell? ⟨g, k * 11, none⟩ = some (.int .i64 x.ty) := e0
      have e1' : w2.cell? ⟨g, k * 11 + 1, none⟩ = some (.bool x.fr) := e1
      have g0 : w2.cell? ⟨w.heap.size, k * 3, none⟩ = some u0 := hu0
      have g1 : w2.cell? ⟨w.heap.size, k * 3 + 1, none⟩ = some u1 := hu1
      have g2 : w2.cell? ⟨w.heap.size, k * 3 + 2, none⟩ = some u2 := hu2
      have f0 : w2.frozen? ⟨w.heap.size, k * 3, none⟩ = false := hf0
      have f1 : w2.frozen? ⟨w.heap.size, k * 3 + 1, none⟩ = false := hf1
      have f2 : w2.frozen? ⟨w.heap.size, k * 3 + 2, none⟩ = false := hf2
      clear e0 e1 hcut' hrest hu0 hu1 hu2 hf0 hf1 hf2
      go_still_tail 13, (by kernel_rfl)
      change wpList _ _ _ _ _ w2.drew
      go_wp2_with fail
      go_roundw
      case rel => exact ⟨k + 1, q2, Rn, by go_num, rfl, by omega, HR2, HQ2, HZ⟩
      case measure => simp [intOf]; omega
    · have hke : k = cs.length := by omega
      have HE : Hid (CellsP F w cs (.returned (.slice (some ⟨w.heap.size, 0, none⟩) cs.length cs.length)) wr) := hdn (by have := HAT.out; rw [hke] at this; exact this.end_ HALL.out)
      clear hke
      go_wp2_with fail
      go_ret
      exact HE.out
end Go.Proofs.YtebmhadpkncgfaaDoor
namespace Go.Proofs.YtebmhadpkncgfaaDoor
open Go.RowKit Go.Maps
def NewP (F : Nat) (w : World) (e : Ending) (w' : World) : Prop := e = .returned (.pointer (some ⟨w.heap.size, 0, none⟩)) ∧ HIs w' w.heap.size (fun _ => False) F [] (.slice none 0 0) ∧ Below w.heap.size w w'
theorem new_any (F c : Nat) (p : Option Addr) (w : World) : Calls Tryd.prog 74 #[.slice p F c] w (NewP F w) := by
  have HE : Hid (NewP F w (.returned (.pointer (some ⟨w.heap.size, 0, none⟩))) (w.alloc (.cells #[.bool true, .int .i64 F, .slice none 0 0] 101))) :=
    hdn ⟨rfl, ⟨(MapKept.heap_alloc w _).1, id, Kin.Lie.nil _ _ (fun _ h => h.elim)⟩, (Below.refl _ _).alloc (Nat.le_refl _) _⟩
  go_enter Tryd.func74, Tryd.ntmps74
  go_wp2_with fail
  go_ret
  exact HE.out
/-- A heap that no call made. -/
def Un (w : World) (q : Value) : Prop := q = .pointer none ∨ ∃ b, q = .pointer (some ⟨b, 0, none⟩) ∧ Bk w b 101 #[.bool false, .int .i64 0, .slice none 0 0]
theorem Un.below {w w' : World} {q : Value} (h : Un w q) (hb : Below w.heap.size w w') : Un w' q := by
  rcases h with h | ⟨b, h, k⟩
  · exact .inl h
  · exact .inr ⟨b, h, k.below hb k.lt⟩
theorem Un.len {w : World} {q : Value} (h : Un w q) : LenIs w q 0 := by
  rcases h with rfl | ⟨b, rfl, k⟩
  · exact len_nil w
  · exact len_any b _ _ none 0 0 w k
theorem none_is (x : Int) : isCell 0 x = false := by
  cases h : isCell 0 x with
  | false => rfl
  | true => obtain ⟨i, hi, _⟩ := isCell_iff.1 h; omega
theorem add_un (q : Value) (t : Int) (w : World) (h : Un w q) : Calls Tryd.prog 82 #[q, .int .i64 t] w fun e w' => e = .returned (.int .i64 0) ∧ w = w' := by
  rcases h with rfl | ⟨b, rfl, k⟩
  · go_enter Tryd.func82, Tryd.ntmps82
    go_wp2_with fail
    go_ret
    exact ⟨rfl, rfl⟩
  · have c0 : w.cell? ⟨b, 0, none⟩ = some (.bool false) := k.cell 0
    clear k
    go_enter Tryd.func82, Tryd.ntmps82
    go_wp2_with fail
    go_ret
    exact ⟨rfl, rfl⟩
theorem cells_un (q : Value) (w : World) (h : Un w q) : Calls Tryd.prog 38 #[q] w fun e w' => ∃ p : Option Addr, e = .returned (.slice p 0 0) ∧ Below w.heap.size w w' := by
  rcases h with rfl | ⟨b, rfl, k⟩
  · go_enter Tryd.func38, Tryd.ntmps38
    go_wp2_with fail
    go_ret
    exact ⟨none, rfl, Below.refl _ _⟩
  · have hmk : (Instr.makeSlice 31 (.int .i64 0) (.int .i64 0)).run Tryd.prog w = .ok (.slice (some ⟨w.heap.size, 0, none⟩) 0 0) (w.alloc (.cells (Zc 0) 85)) := make23 0 w (by omega)
    have hmk2 : ∀ w, (Instr.makeSlice 28 (.int .i64 0) (.int .i64 0)).run Tryd.prog w = .ok (.slice (some ⟨w.heap.size, 0, none⟩) 0 0) (w.alloc (.cells (ints (zeros 0)).toArray 3)) := fun w => make44_of 0 w (by omega)
    have c1 : w.cell? ⟨b, 1, none⟩ = some (.int .i64 0) := k.cell 1
    have c2 : w.cell? ⟨b, 2, none⟩ = some (.slice none 0 0) := k.cell 2
    have d1 : (w.alloc (.cells (Zc 0) 85)).cell? ⟨b, 1, none⟩ = some (.int .i64 0) := ((alloc_below_ w _).cell (p := ⟨b, 1, none⟩) k.lt).trans c1
    have d2 : (w.alloc (.cells (Zc 0) 85)).cell? ⟨b, 2, none⟩ = some (.slice none 0 0) := ((alloc_below_ w _).cell (p := ⟨b, 2, none⟩) k.lt).trans c2
    have HB : Hid (Below w.heap.size w ((w.alloc (.cells (Zc 0) 85)).alloc (.cells (ints (zeros 0)).toArray 3)).drew) := hdn (below_drew ((alloc_below_ w _).alloc (by simp) _))
    clear k
    go_enter Tryd.func38, Tryd.ntmps38
    go_wp2_with fail
    clear hmk c1 c2
    go_region
    go_wp2_with fail
    refine wp_loop_rounds 1 ?_
    rw [rounds_succ]
    go_wp2
    go_ret
    exact ⟨_, rfl, HB.out⟩
/-- A heap that was made since. -/
def HM (w0 w : World) (b F : Nat) (cs : List PC) : Prop := ∃ R v, HIs w b R F cs v ∧ (∀ k, R k → w0.heap.size ≤ k) ∧ w0.heap.size ≤ b ∧ Below w0.heap.size w0 w
theorem HM.step {w0 w w' : World} {b F : Nat} {R : Nat → Prop} {cs' : List PC} {ret : Value} {e : Ending} (hR : ∀ k, R k → w0.heap.size ≤ k) (hb : w0.heap.size ≤ b) (hw : Below w0.heap.size w0 w)
    (h : HPost F w b R cs' ret e w') : HM w0 w' b F cs' := by
  obtain ⟨_, R', v', h1, h2⟩ := h
  refine ⟨R', v', h1, fun k hk => ?_, hb, hw.trans (h2.gr.below hw.size (fun k hk => ?_))⟩
  · rcases h2.new k hk with h | h
    · exact hR k h
    · have := hw.size; omega
  · rcases hk with rfl | hk
    · exact hb
    · exact hR k hk
theorem HM.new {F : Nat} {w : World} {e : Ending} {w' : World} (h : NewP F w e w') : HM w w' w.heap.size F [] := ⟨_, _, h.2.1, fun _ h => h.elim, Nat.le_refl _, h.2.2⟩
theorem HM.below {w0 w w' : World} {b F : Nat} {cs : List PC} (h : HM w0 w b F cs) (hb : Below w.heap.size w w') : HM w0 w' b F cs := by
  obtain ⟨R, v, h1, h2, h3, h4⟩ := h
  exact ⟨R, v, h1.below hb, h2, h3, h4.trans (hb.mono h4.size)⟩
theorem HM.add {w0 w : World} {b F : Nat} {cs : List PC} (h : HM w0 w b F cs) (t : Int) (hn : cs.length ≤ 2000000) :
    Calls Tryd.prog 82 #[.pointer (some ⟨b, 0, none⟩), .int .i64 t] w fun e w' => e = .returned (.int .i64 (cs.length + 1 : Nat)) ∧ Hid (HM w0 w' b F (cs ++ [newC F t])) := by
  obtain ⟨R, v, h1, h2, h3, h4⟩ := h
  exact (add_any F b R cs v t w h1 hn).mono fun e w' hp => ⟨hp.1, hdn (HM.step h2 h3 h4 hp)⟩
theorem HM.put {w0 w : World} {b F : Nat} {cs : List PC} (h : HM w0 w b F cs) (c f t : Int) (hF : F ≤ 2000000) (hn : cs.length ≤ maxLen) (ht : okI t) :
    Calls Tryd.prog 81 #[.pointer (some ⟨b, 0, none⟩), .int .i64 c, .int .i64 f, .int .i64 t] w fun e w' => e = .returned (.int .i64 (faultC cs c)) ∧ Hid (HM w0 w' b F (putC F cs c f t)) := by
  obtain ⟨R, v, h1, h2, h3, h4⟩ := h
  exact (put_any F b R cs v c f t w h1 hF hn ht).mono fun e w' hp => ⟨hp.1, hdn (HM.step h2 h3 h4 hp)⟩
theorem HM.free {w0 w : World} {b F : Nat} {cs : List PC} (h : HM w0 w b F cs) (c : Int) (hn : cs.length ≤ maxLen) :
    Calls Tryd.prog 83 #[.pointer (some ⟨b, 0, none⟩), .int .i64 c] w fun e w' => e = .returned (.int .i64 (freeE cs c)) ∧ Hid (HM w0 w' b F (freeC F cs c)) := by
  obtain ⟨R, v, h1, h2, h3, h4⟩ := h
  exact (free_any F b R cs v c w h1 hn).mono fun e w' hp => ⟨hp.1, hdn (HM.step h2 h3 h4 hp)⟩
theorem HM.get {w0 w : World} {b F : Nat} {cs : List PC} (h : HM w0 w b F cs) (c f : Int) (hF : F ≤ 2000000) (hn : cs.length ≤ maxLen) :
    Calls Tryd.prog 56 #[.pointer (some ⟨b, 0, none⟩), .int .i64 c, .int .i64 f] w fun e w' => e = .returned (two (getV F cs c f) (faultC cs c)) ∧ w = w' := by
  obtain ⟨R, v, h1, h2, h3, h4⟩ := h
  exact get_any F b R cs v c f w h1 hF hn
def livesP (w : World) (e : Ending) (w' : World) : Prop := e = .returned (.bool true) ∧ Below w.heap.size w w'
end Go.Proofs.YtebmhadpkncgfaaDoor
namespace Go.Proofs.YtebmhadpkncgfaaDoor
open Go.RowKit Go.Maps
/-- A list's items lie in memory. -/
def LayR {α : Type} (size : Nat) (cells : α → List Value) (R : World → α → Prop) (w : World) (p : Option Addr) (l : List α) : Prop :=
  l = [] ∨ ∃ b o, p = some ⟨b, o, none⟩ ∧ ∀ k x, l[k]? = some x → w.rangeAt b (o + k * size) (cells x) ∧ R w x
theorem rangeAt_below {w w' : World} {b o : Nat} {cs : List Value} (h : w.rangeAt b o cs) (hb : Below w.heap.size w w') : w'.rangeAt b o cs := fun j v hv =>
  (hb.cell (p := ⟨b, o + j, none⟩) (World.block_lt_of_cell? _ _ (h j v hv))).trans (h j v hv)
theorem LayR.below {α : Type} {size : Nat} {cells : α → List Value} {R : World → α → Prop} {w w' : World} {p : Option Addr} {l : List α} (h : LayR size cells R w p l) (hb : Below w.heap.size w w') (hR : ∀ x, R w x → R w' x) : LayR size cells R w' p l := by
  rcases h with h | ⟨b, o, hp, hx⟩
  · exact .inl h
  · exact .inr ⟨b, o, hp, fun k x hk => ⟨rangeAt_below (hx k x hk).1 hb, hR x (hx k x hk).2⟩⟩
theorem LayR.at_ {α : Type} {size : Nat} {cells : α → List Value} {R : World → α → Prop} {w : World} {p : Option Addr} {l : List α} (h : LayR size cells R w p l) {k : Nat} {x : α} (hk : l[k]? = some x) :
    ∃ b o, p = some ⟨b, o, none⟩ ∧ w.rangeAt b (o + k * size) (cells x) ∧ R w x := by
  rcases h with h | ⟨b, o, hp, hx⟩
  · rw [h] at hk; simp at hk
  · exact ⟨b, o, hp, hx k _ hk⟩
theorem chunk {cs c : List Value} {o n m : Nat} (h : (cs.drop o).take n = c) (hm : o + n = m) : cs.drop o = c ++ cs.drop m := by
  rw [← h, ← hm, ← List.drop_drop]; exact (List.take_append_drop n _).symm
theorem choose_lt {α : Type} {n : Nat} {p : Nat → α → Prop} (d : α) (h : ∀ i, i < n → ∃ x, p i x) : ∃ f : Nat → α, ∀ i, i < n → p i (f i) := by
  classical
  exact ⟨fun i => if hi : i < n then (h i hi).choose else d, fun i hi => by simp only [dif_pos hi]; exact (h i hi).choose_spec⟩
/-- A cell that is handed in. -/
structure RC where
  c : PC
  q : Option Addr
  k : Nat
def RC.cells (x : RC) : List Value := [.int .i64 x.c.ty, .bool x.c.fr, .slice x.q x.c.to.length x.k]
def RC.lies (w : World) (x : RC) : Prop := (x.c.to = [] ∨ ∃ b o, x.q = some ⟨b, o, none⟩ ∧ w.rangeAt b o (ints x.c.to)) ∧ x.c.ok
section
variable {H : Type} {enc : TypeId × Value → H} {w : World} {base : Nat} {spare : Nat → Bool} {held : Bool}
theorem fld {T : TypeId} {fs : Array Field} {fuel : Nat} {cs : List Value} {x : DataW H × List MemPlace} (hu : Tryd.prog.underlying T = some (.struct fs)) (h : DataW.trod enc Tryd.prog w base spare held fuel T cs = some x) :
    ∃ n, fuel = n + 1 ∧ cs.length = Tryd.prog.cellsOf T ∧ ∀ (i t o c : Nat), fs[i]?.map (fun f => (f.type, f.offset)) = some (t, o) → Tryd.prog.cellsOf t = c → ∃ y, DataW.trod enc Tryd.prog w base spare held n t ((cs.drop o).take c) = some y := by
  obtain ⟨xs, n, rfl, rfl, hl, hx, hf⟩ := DataW.trod_struct hu h
  refine ⟨n, rfl, hl, fun i t o c hi0 hc => ?_⟩
  obtain ⟨f, hi, he⟩ := Option.map_eq_some_iff.1 hi0
  injection he with e1 e2
  subst e1; subst e2; subst hc
  have hlt : i < xs.length := by rw [hx]; exact (Array.getElem?_eq_some_iff.1 hi).1
  exact ⟨xs[i], (hf i f hi).trans (List.getElem?_eq_getElem hlt)⟩
theorem slice_open {t e : TypeId} {size fuel : Nat} {cs : List Value} {x : DataW H × List MemPlace} (ht : Tryd.prog.underlying t = some (.slice e)) (hc : Tryd.prog.cellsOf e = size) (hs : 0 < size)
    (h : DataW.trod enc Tryd.prog w base spare held fuel t cs = some x) :
    ∃ p len cap, cs = [.slice p len cap] ∧ (len = 0 ∨ ∃ b o n, p = some ⟨b, o, none⟩ ∧ n < fuel ∧ ∀ i, i < len → ∃ cs' y, w.rangeAt b (o + i * size) cs' ∧ DataW.trod enc Tryd.prog w base spare held n e cs' = some y) := by
  rcases DataW.trod_slice ht h with ⟨rfl, rfl⟩ | ⟨a, len, cap, elems, rest, n, rfl, rfl, rfl, _, _, _, hlen, hel, _, _⟩
  · exact ⟨none, 0, 0, rfl, .inl rfl⟩
  · refine ⟨some a, len, cap, rfl, ?_⟩
    by_cases h0 : len = 0
    · exact .inl h0
    · have hcells : ∀ i, i < len → ∃ cs', w.cells? base (a.add (i * size)) size = some cs' ∧ DataW.trod enc Tryd.prog w base spare held n e cs' = elems[i]? := fun i hi => by
        have h1 := hel i hi
        rw [hc] at h1
        have hsome : elems[i]? = some (elems[i]'(by omega)) := List.getElem?_eq_getElem (by omega)
        rw [hsome] at h1
        cases hq : w.cells? base (a.add (i * size)) size with
        | none => rw [hq] at h1; simp at h1
        | some cs' => rw [hq] at h1; exact ⟨cs', rfl, by rw [hsome]; simpa using h1⟩
      obtain ⟨c0, hc0, _⟩ := hcells 0 (by omega)
      obtain ⟨_, hl0, hat0⟩ := World.cells?_some hc0
      obtain ⟨b, off, sp⟩ := a
      have hsp : sp = none := by
        have h2 := hat0 0 hs
        have h3 : c0[0]? = some (c0[0]'(by omega)) := List.getElem?_eq_getElem (by omega)
        rw [h3] at h2
        cases sp with
        | none => rfl
        | some s => simp [World.cell?, Addr.add] at h2; split at h2 <;> simp at h2
      subst hsp
      refine .inr ⟨b, off, n, rfl, by omega, fun i hi => ?_⟩
      obtain ⟨cs', hcs, htr⟩ := hcells i hi
      obtain ⟨_, hl, hat⟩ := World.cells?_some hcs
      refine ⟨cs', elems[i]'(by omega), fun j v hj => ?_, by rw [htr]; exact List.getElem?_eq_getElem (by omega)⟩
      have hjl : j < size := by rw [← hl]; exact (List.getElem?_eq_some_iff.1 hj).1
      have h4 := hat j hjl
      rw [hj] at h4
      rw [← h4]
      rw [Addr.add_mid, Addr.add_mid]
/-- A slice whose items each read. -/
theorem sl_open {α : Type} (d0 : α) {t e : TypeId} {size fuel : Nat} {cs : List Value} {x : DataW H × List MemPlace} {cells : α → List Value} {R : World → α → Prop} (ht : Tryd.prog.underlying t = some (.slice e)) (hc : Tryd.prog.cellsOf e = size) (hs : 0 < size)
    (hel : ∀ n cs y, n < fuel → DataW.trod enc Tryd.prog w base spare held n e cs = some y → ∃ v : α, cs = cells v ∧ R w v)
    (h : DataW.trod enc Tryd.prog w base spare held fuel t cs = some x) : ∃ (p : Option Addr) (l : List α) (cap : Nat), cs = [.slice p l.length cap] ∧ LayR size cells R w p l := by
  obtain ⟨p, len, cap, rfl, h2⟩ := slice_open ht hc hs h
  rcases h2 with rfl | ⟨b, o, n, rfl, hn, hx⟩
  · exact ⟨p, [], cap, rfl, .inl rfl⟩
  · have hx' : ∀ i, i < len → ∃ v : α, w.rangeAt b (o + i * size) (cells v) ∧ R w v := fun i hi => by
      obtain ⟨cs', y, h1, h2⟩ := hx i hi
      obtain ⟨v, rfl, hv⟩ := hel n cs' y hn h2
      exact ⟨v, h1, hv⟩
    obtain ⟨f, hf⟩ := choose_lt d0 hx'
    refine ⟨some ⟨b, o, none⟩, (List.range len).map f, cap, by simp, .inr ⟨b, o, rfl, fun k v hk => ?_⟩⟩
    simp only [List.getElem?_map, Option.map_eq_some_iff] at hk
    obtain ⟨j, hj, rfl⟩ := hk
    obtain ⟨hlt, he⟩ := List.getElem?_eq_some_iff.1 hj
    simp only [List.length_range] at hlt
    simp only [List.getElem_range] at he
    subst he
    exact hf k hlt
theorem cells3 : Tryd.prog.cellsOf 3 = 1 := by kernel_rfl
theorem cells4 : Tryd.prog.cellsOf 4 = 1 := by kernel_rfl
theorem cells5 : Tryd.prog.cellsOf 5 = 1 := by kernel_rfl
theorem cells39 : Tryd.prog.cellsOf 53 = 2 := by kernel_rfl
theorem cells44 : Tryd.prog.cellsOf 28 = 1 := by kernel_rfl
theorem cells46 : Tryd.prog.cellsOf 85 = 3 := by kernel_rfl
theorem int_open {fuel : Nat} {cs : List Value} {x : DataW H × List MemPlace} (h : DataW.trod enc Tryd.prog w base spare held fuel 3 cs = some x) : ∃ n : Int, cs = [.int .i64 n] ∧ okI n := by
  obtain ⟨n, h1, _, h3⟩ := DataW.trod_int Tryd.underlying3 h
  exact ⟨n, h1, h3⟩
theorem ints_open {fuel : Nat} {cs : List Value} {x : DataW H × List MemPlace} (h : DataW.trod enc Tryd.prog w base spare held fuel 28 cs = some x) : ∃ (p : Option Addr) (l : List Int) (cap : Nat), cs = [.slice p l.length cap] ∧ (l = [] ∨ ∃ b o, p = some ⟨b, o, none⟩ ∧ w.rangeAt b o (ints l)) ∧ ∀ x ∈ l, okI x := by
  obtain ⟨p, l, cap, rfl, hl⟩ := sl_open (R := fun _ x => okI x) (cells := fun n : Int => [.int .i64 n]) (0 : Int) Tryd.underlying28 cells3 (by decide) (fun n cs y _ h => int_open h) h
  refine ⟨p, l, cap, rfl, ?_, ?_⟩
  · rcases hl with h | ⟨b, o, hp, hx⟩
    · exact .inl h
    · refine .inr ⟨b, o, hp, fun j v hj => ?_⟩
      unfold ints at hj
      rw [List.getElem?_map] at hj
      obtain ⟨y, hy, rfl⟩ := Option.map_eq_some_iff.1 hj
      have := (hx j y hy).1 0 _ rfl
      simpa using this
  · rcases hl with h | ⟨b, o, hp, hx⟩
    · rw [h]; intro x hx; simp at hx
    · intro x hm
      obtain ⟨j, hj⟩ := List.getElem?_of_mem hm
      exact (hx j x hj).2
theorem cell_open {fuel : Nat} {cs : List Value} {x : DataW H × List MemPlace} (h : DataW.trod enc Tryd.prog w base spare held fuel 85 cs = some x) : ∃ v : RC, cs = v.cells ∧ v.lies w := by
  obtain ⟨n, rfl, hl, hf⟩ := fld Tryd.underlying85 h
  rw [cells46] at hl
  obtain ⟨y0, t0⟩ := hf 0 3 0 _ rfl cells3
  obtain ⟨a, k0, _, z0⟩ := DataW.trod_int Tryd.underlying3 t0
  obtain ⟨y1, t1⟩ := hf 1 4 1 _ rfl cells4
  obtain ⟨b, k1, _⟩ := DataW.trod_bool Tryd.underlying4 t1
  obtain ⟨y2, t2⟩ := hf 2 28 2 _ rfl cells44
  obtain ⟨p, l, cap, k2, l2, l3⟩ := ints_open t2
  have e : cs.drop 0 = cs.drop 0 := rfl
  conv at e => rhs; rw [chunk k0 (show _ = 1 from rfl), chunk k1 (show _ = 2 from rfl), chunk k2 (show _ = 3 from rfl), List.drop_eq_nil_of_le (show cs.length ≤ 3 by omega)]
  refine ⟨⟨⟨a, b, l⟩, p, cap⟩, e, l2, fun j => ?_⟩
  show okI (l.getD j 0)
  rw [List.getD_eq_getElem?_getD]
  cases hj : l[j]? with
  | none => rfl
  | some y => exact l3 y (List.mem_of_getElem? hj)
theorem cellsIn_open {fuel : Nat} {cs : List Value} {x : DataW H × List MemPlace} (h : DataW.trod enc Tryd.prog w base spare held fuel 31 cs = some x) : ∃ (p : Option Addr) (l : List RC) (cap : Nat), cs = [.slice p l.length cap] ∧ LayR 3 RC.cells RC.lies w p l :=
  sl_open ⟨⟨0, false, []⟩, none, 0⟩ Tryd.underlying31 cells46 (by decide) (fun n cs y _ h => cell_open h) h
theorem fields_open {fuel : Nat} {cs : List Value} {x : DataW H × List MemPlace} (h : DataW.trod enc Tryd.prog w base spare held fuel 22 cs = some x) : ∃ (p : Option Addr) (len cap : Nat), cs = [.slice p len cap] := by
  obtain ⟨p, len, cap, rfl, _⟩ := slice_open Tryd.underlying22 cells39 (by decide) h
  exact ⟨p, len, cap, rfl⟩
end
end Go.Proofs.YtebmhadpkncgfaaDoor
namespace Go.Proofs.YtebmhadpkncgfaaDoor
open Go.RowKit Go.Maps
abbrev RefA (F : Nat) (v : Value) : Array Value := #[.int .i64 F, v, .bool true]
def RetB (w : World) (b : Bool) (e : Ending) (w' : World) : Prop := e = .returned (.bool b) ∧ Below w.heap.size w w'
def RetI (w : World) (n : Int) (e : Ending) (w' : World) : Prop := e = .returned (.int .i64 n) ∧ Below w.heap.size w w'
def RetII (w : World) (a b : Int) (e : Ending) (w' : World) : Prop := e = .returned (.tuple #[.int .i64 a, .int .i64 b]) ∧ Below w.heap.size w w'
theorem alloc_below (w : World) (o : Obj) : Below w.heap.size w (w.alloc o) := (Below.refl _ _).alloc (Nat.le_refl _) _
theorem there_any (F n cap : Nat) (p : Option Addr) (x : Int) (w : World) : Calls Tryd.prog 51 #[.agg (RefA F (.slice p n cap)), .int .i64 x] w (RetB w (isCell n x)) := by
  have HB := hdn (alloc_below w (.cells (RefA F (.slice p n cap)) 59))
  by_cases h1 : 1 ≤ x
  · have hb : decide (1 ≤ x) = true := decide_eq_true h1
    have HH := hdn hb
    clear h1
    go_enter Tryd.func51, Tryd.ntmps51
    go_wp2_with fail
    go_ret
    exact ⟨by unfold isCell; rw [HH.out]; simp, HB.out⟩
  · have hb : decide (1 ≤ x) = false := decide_eq_false h1
    have HH := hdn hb
    clear h1
    go_enter Tryd.func51, Tryd.ntmps51
    go_wp2_with fail
    go_ret
    exact ⟨by unfold isCell; rw [HH.out]; simp, HB.out⟩
/-- Cells of the document's heap. -/
def Out (F : Nat) (w : World) (N : Nat → Prop) (v : Value) (cs : List PC) : Prop := (CellK F).Lie w N v cs
theorem Out.gr {F : Nat} {w w' : World} {N : Nat → Prop} {v : Value} {cs : List PC} (h : Out F w N v cs) (hg : Gr w w' (fun k => ¬ N k)) : Out F w' N v cs := Kin.Lie.gr h hg (fun _ hk h => h hk)
theorem Out.sl {F : Nat} {w : World} {N : Nat → Prop} {v : Value} {cs : List PC} (h : Out F w N v cs) {i : Nat} {x : PC} (hi : cs[i]? = some x) :
    ∃ g cap cur fm, v = .slice (some ⟨g, 0, none⟩) cs.length cap ∧ (CellK F).At w N g cap cur fm cs := by
  rcases h.2 with ⟨_, rfl⟩ | ⟨g, cap, cur, fm, hv, ha⟩
  · simp at hi
  · exact ⟨g, cap, cur, fm, hv, ha⟩
theorem fault_any (F : Nat) (N : Nat → Prop) (cs : List PC) (v : Value) (c : Int) (w : World) (h : Out F w N v cs) (hn : cs.length ≤ 2000000) : Calls Tryd.prog 50 #[.agg (RefA F v), .int .i64 c] w (RetI w (faultC cs c)) := by
  obtain ⟨p, cap, rfl⟩ := h.form
  have hb0 := alloc_below w (.cells (RefA F (.slice p cs.length cap)) 59)
  have HB := hdn hb0
  have ht := fun w' => there_any F cs.length cap p c w'
  rcases fault_ways cs c with ⟨hno, hf⟩ | ⟨i, x, rfl, hi, hil, hw⟩
  · rw [hf]
    rw [hno] at ht
    have HT := hdn ht
    clear h ht hno hf hb0
    go_enter Tryd.func50, Tryd.ntmps50
    go_wp2_with fail
    generalize w.alloc (.cells (RefA F (.slice p cs.length cap)) 59) = w1 at HB ⊢
    refine (HT.out w1).mono ?_; rintro e w2 ⟨rfl, hb⟩
    have HB2 : Hid (Below w.heap.size w w2) := hdn (HB.out.trans (hb.mono HB.out.size))
    clear hb
    go_wp2_with fail
    go_ret
    exact ⟨rfl, HB2.out⟩
  · have hx : isCell cs.length ((i : Int) + 1) = true := isCell_iff.2 ⟨i, hil, rfl⟩
    rw [hx] at ht
    have HT := hdn ht
    obtain ⟨g, cap', cur, fm, ev, ha⟩ := Out.sl h hi
    obtain ⟨rfl, rfl⟩ : p = some ⟨g, 0, none⟩ ∧ cap = cap' := by injection ev with e1 e2 e3; exact ⟨e1, e3⟩
    have d1 : w.cell? ⟨g, i * 3 + 1, none⟩ = some (.bool x.fr) := ha.at_cell hi 1 _ rfl
    have HD : Hid (∀ w', Below w.heap.size w w' → w'.cell? ⟨g, i * 3 + 1, none⟩ = some (.bool x.fr)) := hdn (fun w' hb => (hb.cell (World.block_lt_of_cell? _ _ d1)).trans d1)
    have HA : Hid (∀ w', Below w.heap.size (w.alloc (.cells (RefA F (.slice (some ⟨g, 0, none⟩) cs.length cap)) 59)) w' → True) := hdn (fun _ _ => trivial)
    have hbx : ∀ w', Below (w.alloc (.cells (RefA F (.slice (some ⟨g, 0, none⟩) cs.length cap)) 59)).heap.size (w.alloc (.cells (RefA F (.slice (some ⟨g, 0, none⟩) cs.length cap)) 59)) w' → w'.cell? ⟨w.heap.size, 1, none⟩ = some (.slice (some ⟨g, 0, none⟩) cs.length cap) := fun w' hb => by
      have h1 : Bk (w.alloc (.cells (RefA F (.slice (some ⟨g, 0, none⟩) cs.length cap)) 59)) w.heap.size 59 (RefA F (.slice (some ⟨g, 0, none⟩) cs.length cap)) := (MapKept.heap_alloc w _).1
      exact (h1.below hb h1.lt).cell 1
    have HX := hdn hbx
    have hi1 : ((i : Int) + 1 - 1) = (i : Int) := by omega
    have hi2 : (i : Int) < (cs.length : Int) := by omega
    have hi0 : (0 : Int) ≤ (i : Int) := Int.natCast_nonneg _
    have hiB : (i : Int) ≤ 2000000 := by omega
    clear h ht hx ev ha d1 hbx HA hb0 hi
    generalize hf : x.fr = fr at HD
    have hret : faultC cs ((i : Int) + 1) = if fr = true then 2 else 0 := by
      rcases hw with ⟨h1, h2⟩ | ⟨h1, h2⟩
      · rw [h2, ← hf, h1]; rfl
      · rw [h2, ← hf, h1]; rfl
    rw [hret]
    clear hret hf hw
    cases fr with
    | true =>
      rw [if_pos rfl]
      go_enter Tryd.func50, Tryd.ntmps50
      go_wp2_with fail
      generalize w.alloc (.cells (RefA F (.slice (some ⟨g, 0, none⟩) cs.length cap)) 59) = w1 at HB HX ⊢
      refine (HT.out w1).mono ?_; rintro e w2 ⟨rfl, hb⟩
      have HB2 : Hid (Below w.heap.size w w2) := hdn (HB.out.trans (hb.mono HB.out.size))
      have c1 := HX.out w2 hb
      have c2 := HD.out w2 HB2.out
      clear hb
      go_wp2_with fail
      go_ret
      exact ⟨rfl, HB2.out⟩
    | false =>
      rw [if_neg (by decide)]
      go_enter Tryd.func50, Tryd.ntmps50
      go_wp2_with fail
      generalize w.alloc (.cells (RefA F (.slice (some ⟨g, 0, none⟩) cs.length cap)) 59) = w1 at HB HX ⊢
      refine (HT.out w1).mono ?_; rintro e w2 ⟨rfl, hb⟩
      have HB2 : Hid (Below w.heap.size w w2) := hdn (HB.out.trans (hb.mono HB.out.size))
      have c1 := HX.out w2 hb
      have c2 := HD.out w2 HB2.out
      clear hb
      go_wp2_with fail
      go_ret
      exact ⟨rfl, HB2.out⟩
theorem refNew_any (F c : Nat) (p : Option Addr) (w : World) : Calls Tryd.prog 49 #[.slice p F c] w fun e w' => e = .returned (.agg (RefA F (.slice none 0 0))) ∧ Below w.heap.size w w' := by
  have HB := hdn (alloc_below w (.cells (RefA F (.slice none 0 0)) 59))
  go_enter Tryd.func49, Tryd.ntmps49
  go_wp2_with ((with_reducible show wpList _ _ _ (Oper.mk none (Op.store _ _ _) _ _ _ _ :: _) _ _); refine wpList_store_new rfl 59 (.tmp 2) (.tmp 5) rfl _ (RefA F (.slice none 0 0)) rfl rfl size29 rfl (by simp [Value.oneCell']) ?_)
  refine bodyPost_ret (v := .agg (RefA F (.slice none 0 0))) (by simp [results, Tryd.results49, go_sem]) rfl ⟨rfl, HB.out⟩
theorem refGet_any (F : Nat) (N : Nat → Prop) (cs : List PC) (v : Value) (c f : Int) (w : World) (h : Out F w N v cs) (hn : cs.length ≤ 2000000) :
    Calls Tryd.prog 27 #[.agg (RefA F v), .int .i64 c, .int .i64 f] w (RetII w (getV F cs c f) (faultC cs c)) := by
  obtain ⟨p, cap, rfl⟩ := h.form
  have hb0 := alloc_below w (.cells (RefA F (.slice p cs.length cap)) 59)
  have HB := hdn hb0
  have ht := fault_any F N cs _ c _ (Kin.Lie.below h hb0) hn
  have HT := hdn ht
  have hbx : Bk (w.alloc (.cells (RefA F (.slice p cs.length cap)) 59)) w.heap.size 59 (RefA F (.slice p cs.length cap)) := (MapKept.heap_alloc w _).1
  have HBX := hdn hbx
  clear hbx
  by_cases hf : faultC cs c = 0
  · rcases fault_ways cs c with ⟨_, hf'⟩ | ⟨i, x, rfl, hi, hil, hw⟩
    · rw [hf] at hf'; cases hf'
    · have hx : x.fr = false := by
        rcases hw with ⟨_, h2⟩ | ⟨h1, _⟩
        · rw [hf] at h2; cases h2
        · exact h1
      rw [hf] at HT
      cases hfi : isField F f with
      | false =>
        rw [getV_no F cs _ f (.inr hfi), hf]
        clear hw hf h hx hi hb0 ht
        by_cases hf0 : f < 0
        · have hd : decide (f < 0) = true := decide_eq_true hf0
          clear hf0 hfi
          go_enter Tryd.func27, Tryd.ntmps27
          go_wp2_with fail
          generalize w.alloc (.cells (RefA F (.slice p cs.length cap)) 59) = w1 at HB HBX HT ⊢
          refine HT.out.mono ?_; rintro e w2 ⟨rfl, hb⟩
          have HB2 : Hid (Below w.heap.size w w2) := hdn (HB.out.trans (hb.mono HB.out.size))
          clear hb
          go_wp2_with fail
          go_ret2
          exact ⟨rfl, HB2.out⟩
        · have hd : decide (f < 0) = false := decide_eq_false hf0
          have hd2 : decide ((F : Int) ≤ f) = true := by
            unfold isField at hfi
            simp at hfi
            exact decide_eq_true (hfi (by omega))
          clear hf0 hfi
          go_enter Tryd.func27, Tryd.ntmps27
          go_wp2_with fail
          generalize w.alloc (.cells (RefA F (.slice p cs.length cap)) 59) = w1 at HB HBX HT ⊢
          refine HT.out.mono ?_; rintro e w2 ⟨rfl, hb⟩
          have HB2 : Hid (Below w.heap.size w w2) := hdn (HB.out.trans (hb.mono HB.out.size))
          have c0 : w2.cell? ⟨w.heap.size, 0, none⟩ = some (.int .i64 F) := (HBX.out.below hb HBX.out.lt).cell 0
          clear hb
          go_wp2_with fail
          go_ret2
          exact ⟨rfl, HB2.out⟩
      | true =>
        obtain ⟨k, hk, rfl⟩ := isField_iff.1 hfi
        rw [getV_at F cs i k x hi hx hk, hf]
        obtain ⟨g, cap', cur, fm, ev, ha⟩ := Out.sl h hi
        obtain ⟨rfl, rfl⟩ : p = some ⟨g, 0, none⟩ ∧ cap = cap' := by injection ev with e1 e2 e3; exact ⟨e1, e3⟩
        have hs := ha.sub i x hi
        obtain ⟨q, cq, cr, hq, hbq, htk⟩ : ∃ q cq cr, fm i = .slice (some ⟨q, 0, none⟩) F cq ∧ Bk w q 3 cr ∧ cr.toList.take (F * 1) = ints x.to := by
          rcases hs.2.1.2 with ⟨e, _⟩ | ⟨q, cq, cr, e, _, hb, _, _, _, ht⟩
          · exact absurd e hs.2.2
          · exact ⟨q, cq, cr, e, hb, ht⟩
        have d2 : w.cell? ⟨g, i * 3 + 2, none⟩ = some (.slice (some ⟨q, 0, none⟩) F cq) := (ha.at_cell hi 2 _ rfl).trans (by rw [hq])
        have d3 : w.cell? ⟨q, k, none⟩ = some (.int .i64 (x.at k)) := by
          rw [hbq.cell]
          have : (cr.toList.take (F * 1))[k]? = some (.int .i64 (x.at k)) := by
            rw [htk]; unfold ints; rw [List.getElem?_map, at_get x k (by rw [hs.1]; exact hk)]; rfl
          rw [List.getElem?_take, if_pos (by omega)] at this
          simpa using this
        have HD2 := hdn d2
        have HD3 := hdn d3
        have hi1 : ((i : Int) + 1 - 1) = (i : Int) := by omega
        have hi2 : (i : Int) < (cs.length : Int) := by omega
        have hi0 : (0 : Int) ≤ (i : Int) := Int.natCast_nonneg _
        have hiB : (i : Int) ≤ 2000000 := by omega
        have hk0 : decide ((k : Int) < 0) = false := decide_eq_false (by omega)
        have hk1 : decide ((F : Int) ≤ (k : Int)) = false := decide_eq_false (by omega)
        have hk2 : decide (F ≤ k) = false := decide_eq_false (by omega)
        have hk3 : (0 : Int) ≤ (k : Int) := Int.natCast_nonneg _
        have hk4 : (k : Int) < (F : Int) := by omega
        clear h ha hs hq hbq htk d2 d3 ev hf hw hx hi hb0 ht hfi
        go_enter Tryd.func27, Tryd.ntmps27
        go_wp2_with fail
        generalize w.alloc (.cells (RefA F (.slice (some ⟨g, 0, none⟩) cs.length cap)) 59) = w1 at HB HBX HT ⊢
        refine HT.out.mono ?_; rintro e w2 ⟨rfl, hb⟩
        have HB2 : Hid (Below w.heap.size w w2) := hdn (HB.out.trans (hb.mono HB.out.size))
        have c0 : w2.cell? ⟨w.heap.size, 0, none⟩ = some (.int .i64 F) := (HBX.out.below hb HBX.out.lt).cell 0
        have c1 : w2.cell? ⟨w.heap.size, 1, none⟩ = some (.slice (some ⟨g, 0, none⟩) cs.length cap) := (HBX.out.below hb HBX.out.lt).cell 1
        have c2 := (HB2.out.cell (World.block_lt_of_cell? _ _ HD2.out)).trans HD2.out
        have c3 := (HB2.out.cell (World.block_lt_of_cell? _ _ HD3.out)).trans HD3.out
        clear hb
        go_wp2_with fail
        go_ret2
        exact ⟨rfl, HB2.out⟩
  · rw [getV_no F cs c f (.inl hf)]
    generalize hk : faultC cs c = k at hf HT ⊢
    have hk1 : (k == 0) = false := by simpa using hf
    have hk2 : (k != 0) = true := by simpa using hf
    clear hk ht hb0 h hf
    go_enter Tryd.func27, Tryd.ntmps27
    go_wp2_with fail
    generalize w.alloc (.cells (RefA F (.slice p cs.length cap)) 59) = w1 at HB HBX HT ⊢
    refine HT.out.mono ?_; rintro e w2 ⟨rfl, hb⟩
    have HB2 : Hid (Below w.heap.size w w2) := hdn (HB.out.trans (hb.mono HB.out.size))
    clear hb
    go_wp2_with fail
    go_ret2
    exact ⟨rfl, HB2.out⟩
end Go.Proofs.YtebmhadpkncgfaaDoor
namespace Go.Proofs.YtebmhadpkncgfaaDoor
open Go.RowKit Go.Maps
/-- A copy under way. -/
structure OwnI (F : Nat) (w wr : World) (v vo : Value) (Ro : Nat → Prop) (xs : List PC) : Prop where
  box : Bk wr w.heap.size 59 (RefA F v)
  res : Bk wr (w.heap.size + 1) 59 #[.int .i64 0, .slice none 0 0, .bool false]
  out : Bk wr (w.heap.size + 1 + 1) 59 (RefA F vo)
  lie : (CellK F).Lie wr Ro vo xs
  new : ∀ b, Ro b → w.heap.size + 3 ≤ b
  below : Below w.heap.size w wr
/-- How an item lies whole. -/
theorem Out.whole {F : Nat} {w : World} {N : Nat → Prop} {v : Value} {cs : List PC} (h : Out F w N v cs) {i : Nat} {x : PC} (hi : cs[i]? = some x) :
    ∃ g cap q cq, v = .slice (some ⟨g, 0, none⟩) cs.length cap ∧ w.rangeAt g (i * 3) [.int .i64 x.ty, .bool x.fr, .slice (some ⟨q, 0, none⟩) F cq] ∧ w.rangeAt q 0 (ints x.to) ∧ x.to.length = F := by
  obtain ⟨g, cap, cur, fm, hv, ha⟩ := Out.sl h hi
  have hs := ha.sub i x hi
  rcases hs.2.1.2 with ⟨e, _⟩ | ⟨q, cq, cr, e, _, hb, _, _, _, ht⟩
  · exact absurd e hs.2.2
  · refine ⟨g, cap, q, cq, hv, ?_, fun j u hu => ?_, hs.1⟩
    · have := ha.range hi
      rw [e] at this
      exact this
    · have hbk : Bk w q 3 cr := hb
      rw [Nat.zero_add, hbk.cell]
      have hj : j < F := by
        have := (List.getElem?_eq_some_iff.1 hu).1
        simp [ints, hs.1] at this; exact this
      have h2 : (cr.toList.take (F * 1))[j]? = some u := by rw [ht]; exact hu
      rw [List.getElem?_take, if_pos (by omega)] at h2
      simpa using h2
theorem rangeAt_below' {B : Nat} {w w' : World} {b o : Nat} {cs : List Value} (h : w.rangeAt b o cs) (hb : Below B w w') (hB : w.heap.size ≤ B) : w'.rangeAt b o cs := fun j v hv =>
  (hb.cell (p := ⟨b, o + j, none⟩) (Nat.lt_of_lt_of_le (World.block_lt_of_cell? _ _ (h j v hv)) hB)).trans (h j v hv)
/-- The item's block, while a copy is made of it. -/
structure OwnC (F : Nat) (w wr w4 : World) (v vo : Value) (Ro : Nat → Prop) (xs : List PC) (x : PC) (q' : Value) : Prop where
  own : OwnI F w w4 v vo Ro xs
  item : Bk w4 wr.heap.size 85 #[.int .i64 x.ty, .bool x.fr, q']
  sub : (CellK F).sub w4 x q'
  far : ∀ m, q'.ownBlock = some m → wr.heap.size < m
  old : ∀ k, Ro k → k < wr.heap.size
  base : w.heap.size + 3 ≤ wr.heap.size
theorem own_copy {F : Nat} {w wr w3 : World} {v vo : Value} {Ro : Nat → Prop} {xs : List PC} {x : PC} {q q' : Value} (h : OwnI F w wr v vo Ro xs) (hl : x.to.length = F)
    (hown : w3.ownsRow 0 3 1 q' (0 + F) ([] ++ ints x.to)) (hg : ((wr.alloc (.cells #[.int .i64 x.ty, .bool x.fr, q] 85)).alloc (.cells #[] 3)).grownBy w3 (some (wr.heap.size + 1))) (hn : q' ≠ .slice none 0 0) (hat : q'.ownBlock = some (wr.heap.size + 1) ∨ q'.ownBlock = some (wr.heap.size + 1 + 1)) :
    Bk w3 wr.heap.size 85 #[.int .i64 x.ty, .bool x.fr, q] ∧ OwnC F w wr (w3.setCell ⟨wr.heap.size, 2, none⟩ q') v vo Ro xs x q' := by
  have b1 : Bk (wr.alloc (.cells #[.int .i64 x.ty, .bool x.fr, q] 85)) wr.heap.size 85 #[.int .i64 x.ty, .bool x.fr, q] := (MapKept.heap_alloc wr _).1
  have b2 := b1.below (alloc_below _ (.cells #[] 3)) b1.lt
  have b3 : Bk w3 wr.heap.size 85 #[.int .i64 x.ty, .bool x.fr, q] := (hg.block _ b2.lt (by intro e; injection e with e; omega)).trans b2
  have hb3 : Below wr.heap.size wr w3 := ((((Below.refl _ _).alloc (Nat.le_refl _) _).alloc (by simp) _).grown hg (by simp; omega) (fun j hj => by injection hj with hj; omega))
  have hb4 : Below wr.heap.size wr (w3.setCell ⟨wr.heap.size, 2, none⟩ q') := hb3.setCell (Nat.le_refl _) _
  have hmlt : ∀ m, q'.ownBlock = some m → wr.heap.size < m := fun m hm => by
    rcases hat with e | e <;> rw [e] at hm <;> injection hm with hm <;> omega
  have hs : w3.heap.size = w3.heap.size := rfl
  refine ⟨b3, ⟨⟨h.box.below hb4 h.box.lt, h.res.below hb4 h.res.lt, h.out.below hb4 h.out.lt, h.lie.below hb4, h.new, h.below.trans (hb4.mono h.below.size)⟩, b3.set_ 2 q', ⟨hl, ?_, hn⟩, hmlt, h.lie.1, by have := h.out.lt; omega⟩⟩
  have := ownsRow_keep hown (w' := w3.setCell ⟨wr.heap.size, 2, none⟩ q') (fun m hm => Below.heap_setCell w3 _ _ m (by have := hmlt m hm; show m ≠ wr.heap.size; omega))
  simpa using this
theorem own_form {F : Nat} {w : World} {q' : Value} {xs : List Value} (hown : w.ownsRow 0 3 1 q' (0 + F) xs) (hn : q' ≠ .slice none 0 0) : ∃ g cp, q' = .slice (some ⟨g, 0, none⟩) F cp := by
  rcases hown.2 with ⟨e, _⟩ | ⟨g, cap, cur, e, _⟩
  · exact absurd e hn
  · exact ⟨g, cap, by rw [e, Nat.zero_add]⟩
theorem own_push {F : Nat} {w wr w4 w6 : World} {v vo q' : Value} {Ro : Nat → Prop} {xs : List PC} {x : PC} {g cap : Nat} {ys : List Value} (h : OwnC F w wr w4 v vo Ro xs x q')
    (hys : (vo = .slice none 0 0 ∧ xs = []) ∨ ∃ g cap cur fm, vo = .slice (some ⟨g, 0, none⟩) xs.length cap ∧ (CellK F).At (w4.alloc (.cells #[.int .i64 x.ty, .bool x.fr, q'] 85)) Ro g cap cur fm xs ∧ ∀ j, j < xs.length * 3 → ys[j]? = cur[j]?) (hyl : ys.length = xs.length * 3)
    (hown : w6.ownsRow 0 85 3 (.slice (some ⟨g, 0, none⟩) (xs.length + 1) cap) (xs.length + 1) (ys ++ [.int .i64 x.ty, .bool x.fr, q'])) (hg : (w4.alloc (.cells #[.int .i64 x.ty, .bool x.fr, q'] 85)).grownBy w6 vo.ownBlock) (hat : vo.ownBlock = some g ∨ g = (w4.alloc (.cells #[.int .i64 x.ty, .bool x.fr, q'] 85)).heap.size) (hlt : g < w6.heap.size) :
    Bk w6 (w.heap.size + 1 + 1) 59 (RefA F vo) ∧ ∃ Ro', OwnI F w (w6.setCell ⟨w.heap.size + 1 + 1, 1, none⟩ (.slice (some ⟨g, 0, none⟩) (xs.length + 1) cap)) v (.slice (some ⟨g, 0, none⟩) (xs.length + 1) cap) Ro' (xs ++ [x]) := by
  have hvo : ∀ k, some k = vo.ownBlock → Ro k := fun k hk => by
    rcases h.own.lie.2 with ⟨e, _⟩ | ⟨g0, c0, r0, f0, e, ha0⟩
    · rw [e] at hk; cases hk
    · rw [e] at hk; simp only [Value.ownBlock] at hk; injection hk with hk; subst hk; exact ha0.mine
  have hw4 : wr.heap.size < w4.heap.size := h.item.lt
  have hb5 := alloc_below w4 (.cells #[.int .i64 x.ty, .bool x.fr, q'] 85)
  have hkeep : ∀ k t cs, k < w.heap.size + 3 → Bk w4 k t cs → Bk w6 k t cs := fun k t cs hk hb => by
    have h5 := hb.below hb5 hb.lt
    exact (hg.block k h5.lt (fun e => by have := h.own.new k (hvo k e); omega)).trans h5
  have hout := hkeep _ _ _ (by omega) h.own.out
  have hgn : w.heap.size + 3 ≤ g := by
    rcases hat with e | e
    · exact h.own.new g (hvo g e.symm)
    · rw [e]; have := h.base; simp; omega
  have hlie5 := h.own.lie.below hb5
  have hsub6 : (CellK F).sub w6 x q' := (CellK F).keep _ w6 x q' ((CellK F).keep w4 _ x q' h.sub hb5.size (fun m hm => hb5.block m ((CellK F).has w4 x q' m h.sub hm))) hg.size (fun m hm => hg.block m (by have := (CellK F).has w4 x q' m h.sub hm; simp; omega) (fun e => by have h1 := h.old m (hvo m e); have h2 := h.far m hm; omega))
  have hl6 := Kin.Lie.push (K := CellK F) (R' := fun k => Ro k ∨ k = g ∨ q'.ownBlock = some k) (x' := x) (b' := q') hlie5 hys hyl hown hg hat (Nat.le_refl _) hsub6
    (fun m hm => ⟨fun hR => by have h1 := h.old m hR; have h2 := h.far m hm; omega, fun e => by
      rcases hat with h1 | h1
      · have h3 := h.old g (hvo g h1.symm); have h2 := h.far m hm; omega
      · have h3 := (CellK F).has w4 x q' m h.sub hm; simp at h1; omega, .inr (.inr hm)⟩) (fun _ h => .inl h) (.inr (.inl rfl))
    (fun k hk => by
      rcases hk with hk | hk | hk
      · exact Nat.lt_of_lt_of_le (hlie5.1 k hk) hg.size
      · subst hk; exact hlt
      · exact (CellK F).has w6 x q' k hsub6 hk)
  have hgs : w6.grownBy (w6.setCell ⟨w.heap.size + 1 + 1, 1, none⟩ (.slice (some ⟨g, 0, none⟩) (xs.length + 1) cap)) (some (w.heap.size + 1 + 1)) := grownBy_setC w6 _ _
  have hnew : ∀ k, (Ro k ∨ k = g ∨ q'.ownBlock = some k) → w.heap.size + 3 ≤ k := fun k hk => by
    rcases hk with hk | hk | hk
    · exact h.own.new k hk
    · omega
    · have := h.far k hk; have := h.base; omega
  refine ⟨hout, fun k => Ro k ∨ k = g ∨ q'.ownBlock = some k, ⟨(hkeep _ _ _ (by omega) h.own.box).far (by show w.heap.size ≠ w.heap.size + 1 + 1; omega) _, (hkeep _ _ _ (by omega) h.own.res).far (by show w.heap.size + 1 ≠ w.heap.size + 1 + 1; omega) _, hout.set_ 1 _, hl6.gr (Gr.of_grown hgs) (fun k hk e => by injection e with e; have := hnew k hk; omega), hnew, ?_⟩⟩
  exact ((h.own.below.trans (hb5.mono h.own.below.size)).grown hg (h.own.below.trans (hb5.mono h.own.below.size)).size (fun j hj => by have := h.own.new j (hvo j hj.symm); omega)).setCell (by show w.heap.size ≤ w.heap.size + 1 + 1; omega) _
theorem own_res {cur : Array Value} {F : Nat} {v : Value} (h2 : cur.size = (#[.int .i64 0, .slice none 0 0, .bool false] : Array Value).size) (h3 : ∀ j, j < (RefA F v).size → cur[0 + j]? = (RefA F v)[j]?) : cur = RefA F v := by
  refine Array.ext_getElem? fun j => ?_
  by_cases hj : j < 3
  · have := h3 j hj
    rwa [Nat.zero_add] at this
  · rw [Array.getElem?_eq_none (by rw [h2]; simp; omega), Array.getElem?_eq_none (by simp; omega)]
theorem Kin.Lie.oneA {α β : Type} {K : Kin α β} {w : World} {R : Nat → Prop} {v : Value} {xs : List α} {F : Nat} (h : K.Lie w R v xs) : (RefA F v).all (·.oneCell') = true := by
  obtain ⟨p, c, rfl⟩ := h.form
  simp [Value.oneCell']
/-- What Own hands back. -/
def OwnP (F : Nat) (w : World) (cs : List PC) (e : Ending) (w' : World) : Prop :=
  ∃ v N, e = .returned (.agg (RefA F v)) ∧ Out F w' N v cs ∧ (∀ b, N b → w.heap.size ≤ b) ∧ Below w.heap.size w w'
theorem own_any (F : Nat) (N : Nat → Prop) (cs : List PC) (v : Value) (w : World) (h : Out F w N v cs) (hF : F ≤ 2000000) (hn : cs.length ≤ 2000000) :
    Calls Tryd.prog 47 #[.agg (RefA F v)] w (OwnP F w cs) := by
  obtain ⟨pv, cap, rfl⟩ := h.form
  have hH := hdn h
  have hst : OwnI F w (((w.alloc (.cells (RefA F (.slice pv cs.length cap)) 59)).alloc (.cells #[.int .i64 0, .slice none 0 0, .bool false] 59)).alloc (.cells (RefA F (.slice none 0 0)) 59)) (.slice pv cs.length cap) (.slice none 0 0) (fun _ => False) [] := by
    have e1 : (w.alloc (.cells (RefA F (.slice pv cs.length cap)) 59)).heap.size = w.heap.size + 1 := by simp
    have e2 : ((w.alloc (.cells (RefA F (.slice pv cs.length cap)) 59)).alloc (.cells #[.int .i64 0, .slice none 0 0, .bool false] 59)).heap.size = w.heap.size + 2 := by simp
    have b1 : Bk (w.alloc (.cells (RefA F (.slice pv cs.length cap)) 59)) w.heap.size 59 (RefA F (.slice pv cs.length cap)) := (MapKept.heap_alloc w _).1
    have b2 : Bk ((w.alloc (.cells (RefA F (.slice pv cs.length cap)) 59)).alloc (.cells #[.int .i64 0, .slice none 0 0, .bool false] 59)) (w.heap.size + 1) 59 #[.int .i64 0, .slice none 0 0, .bool false] := by rw [← e1]; exact (MapKept.heap_alloc _ _).1
    refine ⟨(b1.below (alloc_below _ _) b1.lt).below (alloc_below _ _) (b1.below (alloc_below _ _) b1.lt).lt, b2.below (alloc_below _ _) b2.lt, ?_, Kin.Lie.nil _ _ (fun _ h => h.elim), fun _ h => h.elim, (((Below.refl _ _).alloc (Nat.le_refl _) _).alloc (by simp) _).alloc (by simp; omega) _⟩
    have e3 : w.heap.size + 1 + 1 = w.heap.size + 2 := rfl
    rw [e3, ← e2]; exact (MapKept.heap_alloc _ _).1
  have HST := hdn hst
  clear hst h
  go_enter Tryd.func47, Tryd.ntmps47
  go_wp2_with ((with_reducible show wpList _ _ _ (Oper.mk none (Op.store _ _ _) _ _ _ _ :: _) _ _); refine wpList_store_new rfl 59 (.tmp 3) (.tmp 10) rfl _ (RefA F (.slice none 0 0)) rfl rfl size29 rfl (by simp [Value.oneCell']) ?_)
  generalize ((w.alloc (.cells (RefA F (.slice pv cs.length cap)) 59)).alloc (.cells #[.int .i64 0, .slice none 0 0, .bool false] 59)).alloc (.cells (RefA F (.slice none 0 0)) 59) = wS at HST ⊢
  go_loopw [4] (fun t wr => ∃ (k : Nat) (vo : Value) (Ro : Nat → Prop), t = .int .i64 k ∧ k ≤ cs.length ∧ Hid (OwnI F w wr (.slice pv cs.length cap) vo Ro (cs.take k))) (fun t _ => cs.length - (intOf t).toNat)
  case atStart => exact ⟨0, _, _, rfl, Nat.zero_le _, HST⟩
  case round =>
    obtain ⟨k, vo, Ro, rfl, hk, HI⟩ := hrel
    have b1 : wr.cell? ⟨w.heap.size, 1, none⟩ = some (.slice pv cs.length cap) := HI.out.box.cell 1
    by_cases hkl : k < cs.length
    · obtain ⟨x, hx⟩ : ∃ x, cs[k]? = some x := ⟨_, List.getElem?_eq_getElem hkl⟩
      obtain ⟨g, cap', q, cq, ev, hit, hq, hxl⟩ := Out.whole hH.out hx
      obtain ⟨rfl, rfl⟩ : pv = some ⟨g, 0, none⟩ ∧ cap = cap' := by injection ev with e1 e2 e3; exact ⟨e1, e3⟩
      have hit' := rangeAt_below' hit HI.out.below (Nat.le_refl _)
      have hq' := rangeAt_below' hq HI.out.below (Nat.le_refl _)
      have HIT : Hid (wr.rangeAt g (k * 3) (#[.int .i64 x.ty, .bool x.fr, .slice (some ⟨q, 0, none⟩) F cq] : Array Value).toList) := hdn hit'
      have hb2 : Below wr.heap.size wr ((wr.alloc (.cells #[.int .i64 x.ty, .bool x.fr, .slice (some ⟨q, 0, none⟩) F cq] 85)).alloc (.cells #[] 3)) := ((Below.refl _ _).alloc (Nat.le_refl _) _).alloc (by simp) _
      have hQ2 := rangeAt_below' hq' hb2 (Nat.le_refl _)
      have HN1 : Hid (∀ j u, (ints x.to)[j]? = some u → ((wr.alloc (.cells #[.int .i64 x.ty, .bool x.fr, .slice (some ⟨q, 0, none⟩) F cq] 85)).alloc (.cells #[] 3)).cell? ((⟨q, 0, none⟩ : Addr).add j) = some u) := hdn (fun j u hu => by rw [Addr.add_mid]; exact hQ2 j u hu)
      have hown0 : ((wr.alloc (.cells #[.int .i64 x.ty, .bool x.fr, .slice (some ⟨q, 0, none⟩) F cq] 85)).alloc (.cells #[] 3)).ownsRow 0 3 1 (.slice (some ⟨wr.heap.size + 1, 0, none⟩) 0 0) 0 [] := by
        refine ⟨rfl, .inr ⟨_, 0, #[], rfl, Nat.zero_le _, ?_, Nat.le_refl _, Nat.zero_le _, rfl, rfl⟩⟩
        have e1 : (wr.alloc (.cells #[.int .i64 x.ty, .bool x.fr, .slice (some ⟨q, 0, none⟩) F cq] 85)).heap.size = wr.heap.size + 1 := by simp
        rw [← e1]; exact (MapKept.heap_alloc _ _).1
      have HO0 := hdn hown0
      have c2 : (((wr.alloc (.cells #[.int .i64 x.ty, .bool x.fr, .slice (some ⟨q, 0, none⟩) F cq] 85)).alloc (.cells #[] 3))).cell? ⟨wr.heap.size, 2, none⟩ = some (.slice (some ⟨q, 0, none⟩) F cq) := by
        have b1 : Bk (wr.alloc (.cells #[.int .i64 x.ty, .bool x.fr, .slice (some ⟨q, 0, none⟩) F cq] 85)) wr.heap.size 85 #[.int .i64 x.ty, .bool x.fr, .slice (some ⟨q, 0, none⟩) F cq] := (MapKept.heap_alloc wr _).1
        exact (b1.below (alloc_below _ (.cells #[] 3)) b1.lt).cell 2
      have H1 : Hid (∀ u ∈ ints x.to, u.oneCell' = true) := hdn (by intro v hv; obtain ⟨x, _, rfl⟩ := List.mem_map.1 hv; rfl)
      have HL1 : Hid ((ints x.to).length = F * 1) := hdn (by simp [ints, hxl])
      have HXL := hdn hxl
      have HX := hdn hx
      obtain ⟨i3, hi3, hz3, hs3, hb3⟩ := i3
      have HI3 := hdn hi3
      have HZ3 := hdn hz3
      have HS3 := hdn hs3
      have HY3 := hdn hb3
      have hk0 : (0 : Int) ≤ (k : Int) := Int.natCast_nonneg _
      have hk1 : (k : Int) < (cs.length : Int) := by omega
      have hFm : 0 + F ≤ maxLen := by unfold maxLen; omega
      have hFb : (0 + F) * 8 ≤ 140737488355328 := by omega
      clear hit hq hit' hq' hb2 hQ2 hown0 ev hi3 hz3 hs3 hb3 hxl hx
      go_upto_region 7 with (first
        | ((with_reducible show wpList _ _ _ (Oper.mk (some 22) _ _ _ _ _ :: _) _ _); refine wpList_load_arr rfl 85 (.tmp 21) rfl g (k * 3) rfl #[.int .i64 x.ty, .bool x.fr, .slice (some ⟨q, 0, none⟩) F cq] _ HIT.out Tryd.underlying85 rfl size46 ?_)
        | ((with_reducible show wpList _ _ _ (Oper.mk none (Op.store 85 _ _) _ _ _ _ :: _) _ _); refine wpList_store_new rfl 85 (.tmp 5) (.tmp 22) rfl _ #[.int .i64 x.ty, .bool x.fr, .slice (some ⟨q, 0, none⟩) F cq] rfl rfl size46 rfl (by simp [Value.oneCell']) ?_)
        | (at_builtin; refine wpList_append_own_at _ rfl (.tmp 23) (.tmp 25) 28 rfl 0 3 i3 _ 1 8 Tryd.underlying28 HI3.out HZ3.out HS3.out HY3.out rfl (by decide) (.slice (some ⟨wr.heap.size + 1, 0, none⟩) 0 0) 0 [] rfl HO0.out ⟨q, 0, none⟩ F cq (ints x.to) rfl HL1.out HN1.out H1.out hFm hFb (Nat.zero_le _) ?_; intro q' w3 r1 r2 r3 r4; obtain ⟨gq, cp, rfl⟩ := own_form r1 (fun e => by have := (r3.1 e).1; cases this); obtain ⟨r5, r6⟩ := own_copy HI.out HXL.out r1 r2 (fun e => by have := (r3.1 e).1; cases this) (r4.imp (fun h => h) (fun h => h.trans (by simp))); have f5 := r5.frozen 2; have g5 := r5.cell 2; have HC := hdn r6; clear r1 r2 r3 r4 r5 r6))
      generalize w3.setCell ⟨wr.heap.size, 2, none⟩ (.slice (some ⟨gq, 0, none⟩) F cp) = w4 at HC ⊢
      have o1 : w4.cell? ⟨w.heap.size + 1 + 1, 1, none⟩ = some vo := HC.out.own.out.cell 1
      have hlk : (cs.take k).length = k := by rw [List.length_take]; omega
      obtain ⟨ys, hys0, hyl, hys⟩ := (HC.out.own.lie.below (alloc_below w4 (.cells #[.int .i64 x.ty, .bool x.fr, .slice (some ⟨gq, 0, none⟩) F cp] 85))).owns (base := 0) (fun _ _ => Nat.zero_le _)
      have HP := hdn (fun g cap w6 => own_push HC.out (g := g) (cap := cap) (w6 := w6) hys hyl)
      have HYS := hdn hys0
      have HN2 : Hid (∀ j u, ([.int .i64 x.ty, .bool x.fr, .slice (some ⟨gq, 0, none⟩) F cp] : List Value)[j]? = some u → (w4.alloc (.cells #[.int .i64 x.ty, .bool x.fr, .slice (some ⟨gq, 0, none⟩) F cp] 85)).cell? ((⟨w4.heap.size, 0, none⟩ : Addr).add j) = some u) := hdn (fun j u hu => by
        have e : ((⟨w4.heap.size, 0, none⟩ : Addr).add j) = ⟨w4.heap.size, j, none⟩ := by rw [Addr.add_mid]; simp
        rw [e]
        exact (World.cell?_alloc_at _ _ _ _ rfl).trans (by simpa using hu))
      obtain ⟨i46, hi4, hz4, hs4, hb4⟩ := z46
      have HI4 := hdn hi4
      have HZ4 := hdn hz4
      have HS4 := hdn hs4
      have HY4 := hdn hb4
      rw [hlk] at HP HYS
      have hm1 : k + 1 ≤ maxLen := by unfold maxLen; omega
      have hm2 : (k + 1) * 40 ≤ 140737488355328 := by omega
      have H2 : Hid (∀ u ∈ ([.int .i64 x.ty, .bool x.fr, .slice (some ⟨gq, 0, none⟩) F cp] : List Value), u.oneCell' = true) := hdn (by intro u hu; simp at hu; rcases hu with rfl | rfl | rfl <;> rfl)
      have htk : cs.take k ++ [x] = cs.take (k + 1) := by rw [List.take_add_one, HX.out]; rfl
      rw [htk] at HP
      clear hys hyl hys0 hi4 hz4 hs4 hb4 hlk htk HN1 HO0 f5 g5 c2
      go_wp2_with (first
        | ((with_reducible show wpList _ _ _ (Oper.mk (some 30) _ _ _ _ _ :: _) _ _); refine wpList_load_bk rfl 85 (.tmp 5) rfl wr.heap.size 85 #[.int .i64 x.ty, .bool x.fr, .slice (some ⟨gq, 0, none⟩) F cp] rfl _ HC.out.item Tryd.underlying85 rfl size46 ?_)
        | (at_builtin; refine wpList_append_lies _ rfl (.tmp 29) (.tmp 31) 31 rfl 0 85 i46 _ 3 40 Tryd.underlying31 HI4.out HZ4.out HS4.out HY4.out rfl (by decide) vo k ys rfl HYS.out _ 1 1 [.int .i64 x.ty, .bool x.fr, .slice (some ⟨gq, 0, none⟩) F cp] rfl rfl HN2.out H2.out (by decide) hm1 hm2 (Nat.zero_le _) _ rfl ?_; intro g7 cap7 w6 s1 s2 s3 s4; obtain ⟨t1, t2⟩ := HP.out g7 cap7 w6 s1 s2 s3 s4; have f6 := t1.frozen 1; have g6 := t1.cell 1; have HZ := hdn t2; clear s1 s2 s3 s4 t1 t2))
      go_roundw
      case rel =>
        obtain ⟨Ro', hz⟩ := HZ.out
        exact ⟨k + 1, _, Ro', by go_num, by omega, hdn hz⟩
      case measure => simp [intOf]; omega
    · have hke : k = cs.length := by omega
      have HE : Hid (OwnI F w wr (.slice pv cs.length cap) vo Ro cs) := hdn (by have := HI.out; rwa [hke, List.take_length] at this)
      have r0 : Bk wr (w.heap.size + 1) 59 #[.int .i64 0, .slice none 0 0, .bool false] := HE.out.res
      have o0 := HE.out.out
      have HO := hdn o0
      have HR := hdn r0
      clear hke o0 r0
      go_wp2_with (first
        | ((with_reducible show wpList _ _ _ (Oper.mk (some 34) _ _ _ _ _ :: _) _ _); refine wpList_load_bk rfl 59 (.tmp 3) rfl (w.heap.size + 1 + 1) 59 (RefA F vo) rfl _ HO.out Tryd.underlying59 rfl size29 ?_)
        | ((with_reducible show wpList _ _ _ (Oper.mk none (Op.store 59 _ _) _ _ _ _ :: _) _ _); refine wpList_store_part rfl 59 (.tmp 2) (.tmp 34) rfl (w.heap.size + 1) 0 59 _ (RefA F vo) rfl rfl HR.out size29 (by simp) (HE.out.lie.oneA) ?_; intro w7 cur7 q1 q2 q3 q4 q5; have HQ := hdn q1; have HQ2 := hdn q2; have HQ3 := hdn q3; have HQ5 := hdn q5; clear q1 q2 q3 q4 q5))
      have hcur : cur7 = RefA F vo := own_res HQ2.out HQ3.out
      have hB : Bk w7 (w.heap.size + 1) 59 (RefA F vo) := hcur ▸ HQ.out
      refine bodyPost_ret (results_cell_row Tryd.results47 _ w7 (w.heap.size + 1) 59 (RefA F vo) (0, 0) _ rfl hB Tryd.underlying59 rfl size29) rfl ?_
      exact ⟨vo, Ro, rfl, HE.out.lie.gr (Gr.of_grown HQ5.out) (fun k hk e => by injection e with e; have := HE.out.new k hk; omega), fun b hb => by have := HE.out.new b hb; omega, HE.out.below.grown HQ5.out HE.out.below.size (fun j hj => by injection hj with hj; omega)⟩
end Go.Proofs.YtebmhadpkncgfaaDoor
namespace Go.Proofs.YtebmhadpkncgfaaDoor
open Go.RowKit Go.Maps
/-- What a call on the document's heap hands back: a heap, and a number. -/
def RefP (F : Nat) (w : World) (cs : List PC) (n : Int) (e : Ending) (w' : World) : Prop :=
  ∃ v N, e = .returned (.tuple #[.agg (RefA F v), .int .i64 n]) ∧ Out F w' N v cs ∧ (∀ b, N b → w.heap.size ≤ b) ∧ Below w.heap.size w w'
theorem refAdd_push {F : Nat} {wX w6 : World} {O : Nat} {v : Value} {N : Nat → Prop} {cs : List PC} {t : Int} {g cap : Nat} {ys : List Value} (hout : Out F wX N v cs) (hO : Bk wX O 59 (RefA F v)) (hON : ¬ N O) (hF : F ≤ maxLen) {z : Value} (hz : z = .slice (some ⟨wX.heap.size, 0, none⟩) F F)
    {wB : World} (hwB : wB = (wX.alloc (.cells (ints (zeros F)).toArray 3)).alloc (.cells #[.int .i64 t, .bool false, z] 85))
    (hys : (v = .slice none 0 0 ∧ cs = []) ∨ ∃ g cap cur fm, v = .slice (some ⟨g, 0, none⟩) cs.length cap ∧ (CellK F).At wB N g cap cur fm cs ∧ ∀ j, j < cs.length * 3 → ys[j]? = cur[j]?) (hyl : ys.length = cs.length * 3)
    (hown : w6.ownsRow 0 85 3 (.slice (some ⟨g, 0, none⟩) (cs.length + 1) cap) (cs.length + 1) (ys ++ [.int .i64 t, .bool false, z])) (hg : wB.grownBy w6 v.ownBlock) (hat : v.ownBlock = some g ∨ g = wB.heap.size) (hlt : g < w6.heap.size) :
    Bk w6 O 59 (RefA F v) ∧ ∃ N', Out F (w6.setCell ⟨O, 1, none⟩ (.slice (some ⟨g, 0, none⟩) (cs.length + 1) cap)) N' (.slice (some ⟨g, 0, none⟩) (cs.length + 1) cap) (cs ++ [newC F t]) ∧ Bk (w6.setCell ⟨O, 1, none⟩ (.slice (some ⟨g, 0, none⟩) (cs.length + 1) cap)) O 59 (RefA F (.slice (some ⟨g, 0, none⟩) (cs.length + 1) cap)) ∧ (∀ b, N' b → (N b ∨ wX.heap.size ≤ b) ∧ b ≠ O) ∧ Gr wX (w6.setCell ⟨O, 1, none⟩ (.slice (some ⟨g, 0, none⟩) (cs.length + 1) cap)) (fun k => N k ∨ k = O) := by
  have hvo : ∀ k, some k = v.ownBlock → N k := fun k hk => by
    rcases hout.2 with ⟨e, _⟩ | ⟨g0, c0, r0, f0, e, ha0⟩
    · rw [e] at hk; cases hk
    · rw [e] at hk; simp only [Value.ownBlock] at hk; injection hk with hk; subst hk; exact ha0.mine
  have hbB : Below wX.heap.size wX wB := by rw [hwB]; exact ((Below.refl _ _).alloc (Nat.le_refl _) _).alloc (by simp) _
  have hsz : wB.heap.size = wX.heap.size + 2 := by rw [hwB]; simp
  have hzB : Bk wB wX.heap.size 3 (ints (zeros F)).toArray := by
    have h1 : Bk (wX.alloc (.cells (ints (zeros F)).toArray 3)) wX.heap.size 3 (ints (zeros F)).toArray := (MapKept.heap_alloc wX _).1
    rw [hwB]; exact h1.below (alloc_below _ _) h1.lt
  have hOl := hO.lt
  have hO6 : Bk w6 O 59 (RefA F v) := (hg.block O (by omega) (fun e => hON (hvo O e))).trans (hO.below hbB hOl)
  have hz6 : Bk w6 wX.heap.size 3 (ints (zeros F)).toArray := (hg.block _ hzB.lt (fun e => by have := hout.1 _ (hvo _ e); omega)).trans hzB
  have hsub6 : (CellK F).sub w6 (newC F t) z := ⟨by simp [newC, zeros], by rw [hz]; exact ownsRow_new (c := newC F t) hz6 (by simp [newC, zeros]) hF, by rw [hz]; intro e; cases e⟩
  have hlieB : (CellK F).Lie wB N v cs := Kin.Lie.below hout hbB
  have hzb : z.ownBlock = some wX.heap.size := by rw [hz]; rfl
  have hl6 := Kin.Lie.push (K := CellK F) (R' := fun k => N k ∨ k = g ∨ k = wX.heap.size) (x' := newC F t) (b' := z) hlieB hys hyl hown hg hat (Nat.le_refl _) hsub6
    (fun m hm => by
      have hm' : wX.heap.size = m := by
        have : z.ownBlock = some m := hm
        rw [hzb] at this; injection this
      refine ⟨fun h => by have := hout.1 m h; omega, fun e => ?_, .inr (.inr hm'.symm)⟩
      rcases hat with h1 | h1
      · have := hout.1 g (hvo g h1.symm); omega
      · omega) (fun _ h => .inl h) (.inr (.inl rfl))
    (fun k hk => by
      rcases hk with hk | hk | hk
      · exact Nat.lt_of_lt_of_le (hlieB.1 k hk) hg.size
      · subst hk; exact hlt
      · have := hz6.lt; omega)
  have hgO : g ≠ O := by
    rcases hat with h1 | h1
    · intro e; exact hON (hvo O (by rw [h1, e]))
    · omega
  have hgs : w6.grownBy (w6.setCell ⟨O, 1, none⟩ (.slice (some ⟨g, 0, none⟩) (cs.length + 1) cap)) (some O) := grownBy_setC w6 _ _
  have hne : ∀ k, (N k ∨ k = g ∨ k = wX.heap.size) → k ≠ O := fun k hk => by
    rcases hk with hk | hk | hk
    · intro e; subst e; exact hON hk
    · omega
    · omega
  refine ⟨hO6, fun k => N k ∨ k = g ∨ k = wX.heap.size, Kin.Lie.gr hl6 (Gr.of_grown hgs) (fun k hk e => by injection e with e; exact hne k hk e), hO6.set_ 1 _, fun b hb => ⟨?_, hne b hb⟩, ?_⟩
  · rcases hb with hb | hb | hb
    · exact .inl hb
    · rcases hat with h1 | h1
      · exact .inl (by rw [hb]; exact hvo g h1.symm)
      · exact .inr (by omega)
    · exact .inr (by omega)
  · exact ((Gr.of_below (S := fun k => N k ∨ k = O) hbB).grown hg (fun i _ e => .inl (hvo i e))).setCell (fun _ => .inr rfl) _
theorem ref_end {F : Nat} {w wX w7 wZ : World} {O : Nat} {N2 N' : Nat → Prop} {v : Value} {cs : List PC} {n : Int} (h1 : Out F w7 N' v cs) (hg : Gr w7 wZ (fun k => k = w.heap.size + 1)) (h3 : ∀ b, N' b → (N2 b ∨ wX.heap.size ≤ b) ∧ b ≠ O) (h4 : Gr wX w7 (fun k => N2 k ∨ k = O)) (hb : Below w.heap.size w wX) (hN : ∀ b, N2 b → w.heap.size + 2 ≤ b) (hO : w.heap.size + 2 ≤ O) (hOl : O < wX.heap.size) :
    RefP F w cs n (.returned (.tuple #[.agg (RefA F v), .int .i64 n])) wZ := by
  have hk : ∀ b, N' b → w.heap.size + 2 ≤ b := fun b hb => by
    rcases (h3 b hb).1 with h | h
    · exact hN b h
    · omega
  refine ⟨v, N', rfl, Kin.Lie.gr h1 hg (fun k hk' e => by have := hk k hk'; omega), fun b hb => by have := hk b hb; omega, ?_⟩
  have b1 : Below w.heap.size wX w7 := h4.below (by omega) (fun k h => h.elim (fun h => by have := hN k h; omega) (fun h => by omega))
  exact (hb.trans b1).trans (hg.below (by have := hb.size; have := b1.size; omega) (fun k h => by omega))
theorem results_heap {fn : Func} {p u : Tmp} (h : fn.results = #[.cell p 59, .tmp u]) {tmps : Array Value} {w : World} {g : Nat} {cs : Array Value} (hp : tmps.getD p undef = .pointer (some ⟨g, 0, none⟩)) (hz : cs.size = 3) (hg : Bk w g 59 cs) :
    (results fn tmps).run Tryd.prog w = .ok (.tuple #[.agg cs, tmps.getD u undef]) w := by
  have hp' : tmps[p]?.getD undef = .pointer (some ⟨g, 0, none⟩) := by simpa using hp
  simp [results, h, hp', asAddr, run_loadVar_row w g 59 59 cs (0, 0) _ hg Tryd.underlying59 rfl (by rw [hz]; exact size29)]
theorem refAdd_any (F : Nat) (N : Nat → Prop) (cs : List PC) (v : Value) (t : Int) (w : World) (h : Out F w N v cs) (hF : F ≤ 2000000) (hn : cs.length ≤ 2000000) :
    Calls Tryd.prog 30 #[.agg (RefA F v), .int .i64 t] w (RefP F w (cs ++ [newC F t]) (cs.length + 1 : Nat)) := by
  have hb0 : Below w.heap.size w ((w.alloc (.cells (RefA F v) 59)).alloc (.cells #[.int .i64 0, .slice none 0 0, .bool false] 59)) := ((Below.refl _ _).alloc (Nat.le_refl _) _).alloc (by simp) _
  have HB0 := hdn hb0
  have e1 : (w.alloc (.cells (RefA F v) 59)).heap.size = w.heap.size + 1 := by simp
  have b1 : Bk (w.alloc (.cells (RefA F v) 59)) w.heap.size 59 (RefA F v) := (MapKept.heap_alloc w _).1
  have HBX : Hid (Bk ((w.alloc (.cells (RefA F v) 59)).alloc (.cells #[.int .i64 0, .slice none 0 0, .bool false] 59)) w.heap.size 59 (RefA F v)) := hdn (b1.below (alloc_below _ _) b1.lt)
  have HRS : Hid (Bk ((w.alloc (.cells (RefA F v) 59)).alloc (.cells #[.int .i64 0, .slice none 0 0, .bool false] 59)) (w.heap.size + 1) 59 #[.int .i64 0, .slice none 0 0, .bool false]) := hdn (by rw [← e1]; exact (MapKept.heap_alloc _ _).1)
  have HOW := hdn (own_any F N cs v _ (Kin.Lie.below h hb0) hF hn)
  obtain ⟨pv, cv, rfl⟩ := h.form
  clear h hb0 e1 b1
  go_enter Tryd.func30, Tryd.ntmps30
  go_wp2_with (first | ((with_reducible show wpList _ _ _ (Oper.mk (some 11) _ _ _ _ _ :: _) _ _); refine wpList_load_bk rfl 59 (.tmp 2) rfl w.heap.size 59 (RefA F (.slice pv cs.length cv)) rfl _ HBX.out Tryd.underlying59 rfl size29 ?_))
  generalize (w.alloc (.cells (RefA F (.slice pv cs.length cv)) 59)).alloc (.cells #[.int .i64 0, .slice none 0 0, .bool false] 59) = w1 at HB0 HBX HRS HOW ⊢
  refine HOW.out.mono ?_; rintro e w2 ⟨v2, N2, rfl, ho2, hn2, hb2⟩
  have HO2 := hdn ho2
  have HN2 := hdn hn2
  have HB2 := hdn hb2
  clear ho2 hn2 hb2 HOW
  go_upto_region 4 with (first | ((with_reducible show wpList _ _ _ (Oper.mk none (Op.store _ _ _) _ _ _ _ :: _) _ _); refine wpList_store_new rfl 59 (.tmp 6) (.tmp 12) rfl _ (RefA F v2) rfl rfl size29 rfl HO2.out.oneA ?_))
  have hbX := alloc_below w2 (.cells (RefA F v2) 59)
  have hOX : Bk (w2.alloc (.cells (RefA F v2) 59)) w2.heap.size 59 (RefA F v2) := (MapKept.heap_alloc w2 _).1
  have hXX : Bk (w2.alloc (.cells (RefA F v2) 59)) w.heap.size 59 (RefA F (.slice pv cs.length cv)) := (HBX.out.below HB2.out HBX.out.lt).below hbX (HBX.out.below HB2.out HBX.out.lt).lt
  have HRX : Hid (Bk (w2.alloc (.cells (RefA F v2) 59)) (w.heap.size + 1) 59 #[.int .i64 0, .slice none 0 0, .bool false]) := hdn ((HRS.out.below HB2.out HRS.out.lt).below hbX (HRS.out.below HB2.out HRS.out.lt).lt)
  have HOX : Hid (Out F (w2.alloc (.cells (RefA F v2) 59)) N2 v2 cs) := hdn (Kin.Lie.below HO2.out hbX)
  have HBXX : Hid (Below w.heap.size w (w2.alloc (.cells (RefA F v2) 59))) := hdn ((HB0.out.trans (HB2.out.mono HB0.out.size)).trans (hbX.mono (HB0.out.trans (HB2.out.mono HB0.out.size)).size))
  have HON : Hid (¬ N2 w2.heap.size) := hdn (fun h => Nat.lt_irrefl _ (HO2.out.1 _ h))
  have HW2 : Hid (w.heap.size + 2 ≤ w2.heap.size) := hdn (by have := HRS.out.lt; have := HB2.out.size; omega)
  have HN2' : Hid (∀ b, N2 b → w.heap.size + 2 ≤ b) := hdn (fun b hb => by have := HN2.out b hb; have := HRS.out.lt; omega)
  generalize hwX : w2.alloc (.cells (RefA F v2) 59) = wX at hOX hXX HRX HOX HBXX ⊢
  generalize w2.heap.size = O at hOX HON HW2 ⊢
  have HOO := hdn hOX
  have hsX := HOX.out.1
  clear hwX hbX HO2 HN2 HB2 HRS HBX HB0
  have hmk := fun w => make44 F w hF
  have hbA : Below wX.heap.size wX (wX.alloc (.cells (ints (zeros F)).toArray 3)) := alloc_below _ _
  have hbB : Below wX.heap.size wX ((wX.alloc (.cells (ints (zeros F)).toArray 3)).alloc (.cells #[.int .i64 t, .bool false, .slice (some ⟨wX.heap.size, 0, none⟩) F F] 85)) := ((Below.refl _ _).alloc (Nat.le_refl _) _).alloc (by simp) _
  have o0 : wX.drew.cell? ⟨O, 1, none⟩ = some v2 := hOX.cell 1
  have o1 : (wX.alloc (.cells (ints (zeros F)).toArray 3)).drew.cell? ⟨O, 1, none⟩ = some v2 := (hOX.below hbA hOX.lt).cell 1
  have o2 : ((wX.alloc (.cells (ints (zeros F)).toArray 3)).alloc (.cells #[.int .i64 t, .bool false, .slice (some ⟨wX.heap.size, 0, none⟩) F F] 85)).drew.cell? ⟨O, 1, none⟩ = some v2 := (hOX.below hbB hOX.lt).cell 1
  have p0 : wX.drew.cell? ⟨w.heap.size, 0, none⟩ = some (.int .i64 F) := hXX.cell 0
  obtain ⟨i46, hi4, hz4, hs4, hb4⟩ := z46
  have HI4 := hdn hi4
  have HZ4 := hdn hz4
  have HS4 := hdn hs4
  have HY4 := hdn hb4
  obtain ⟨ys, hys0, hyl, hys⟩ := (Kin.Lie.below HOX.out hbB).owns (base := 0) (fun _ _ => Nat.zero_le _)
  have HP := hdn (fun g cap w6 => refAdd_push HOX.out HOO.out HON.out (by unfold maxLen; omega) rfl rfl (g := g) (cap := cap) (w6 := w6) (t := t) hys hyl)
  have HYS : Hid (((wX.alloc (.cells (ints (zeros F)).toArray 3)).alloc (.cells #[.int .i64 t, .bool false, .slice (some ⟨wX.heap.size, 0, none⟩) F F] 85)).drew.ownsRow 0 85 3 v2 cs.length ys) := hdn hys0
  have HNW : Hid (∀ j u, ([.int .i64 t, .bool false, .slice (some ⟨wX.heap.size, 0, none⟩) F F] : List Value)[j]? = some u → ((wX.alloc (.cells (ints (zeros F)).toArray 3)).alloc (.cells #[.int .i64 t, .bool false, .slice (some ⟨wX.heap.size, 0, none⟩) F F] 85)).drew.cell? ((⟨wX.heap.size + 1, 0, none⟩ : Addr).add j) = some u) := hdn (fun j u hu => by
    have e : ((⟨wX.heap.size + 1, 0, none⟩ : Addr).add j) = ⟨wX.heap.size + 1, j, none⟩ := by rw [Addr.add_mid]; simp
    have e1 : (wX.alloc (.cells (ints (zeros F)).toArray 3)).heap.size = wX.heap.size + 1 := by simp
    rw [e, ← e1]
    exact (World.cell?_alloc_at _ _ _ _ rfl).trans (by simpa using hu))
  have H2 : Hid (∀ u ∈ ([.int .i64 t, .bool false, .slice (some ⟨wX.heap.size, 0, none⟩) F F] : List Value), u.oneCell' = true) := hdn (by intro u hu; simp at hu; rcases hu with rfl | rfl | rfl <;> rfl)
  have hm1 : cs.length + 1 ≤ maxLen := by unfold maxLen; omega
  have hm2 : (cs.length + 1) * 40 ≤ 140737488355328 := by omega
  clear hOX hXX hbA hbB hi4 hz4 hs4 hb4 hys0 hyl hys hsX
  go_region_law (first
    | (refine step_append_lies _ rfl (.tmp 14) (.tmp 20) 31 rfl 0 85 i46 _ 3 40 Tryd.underlying31 HI4.out HZ4.out HS4.out HY4.out rfl (by decide) v2 cs.length ys rfl HYS.out _ 1 1 [.int .i64 t, .bool false, .slice (some ⟨wX.heap.size, 0, none⟩) F F] rfl rfl HNW.out H2.out (by decide) hm1 hm2 (Nat.zero_le _) _ rfl ?_; intro g7 cap7 w6 s1 s2 s3 s4; obtain ⟨t1, t2⟩ := HP.out g7 cap7 w6 s1 ⟨s2.os, s2.tape, s2.output, s2.size, s2.block⟩ s3 s4; have f6 := t1.frozen 1; have g6 := t1.cell 1; have HZ := hdn t2; clear s1 s2 s3 s4 t1 t2))
  all_goals
    obtain ⟨N', z1, z2, z3, z4⟩ := HZ.out
    have Z1 := hdn z1
    have Z3 := hdn z3
    have Z4 := hdn z4
    have ZR : Hid (Bk (w6.setCell ⟨O, 1, none⟩ (.slice (some ⟨g7, 0, none⟩) (cs.length + 1) cap7)) (w.heap.size + 1) 59 #[.int .i64 0, .slice none 0 0, .bool false]) := hdn (z4.bk HRX.out (fun h => h.elim (fun h => by have := HN2'.out _ h; omega) (fun h => by have := HW2.out; omega)))
    clear z1 z3 z4 f6 g6 o0 o1 o2 p0 hmk
    generalize w6.setCell ⟨O, 1, none⟩ (.slice (some ⟨g7, 0, none⟩) (cs.length + 1) cap7) = w7 at Z1 Z3 Z4 ZR z2 ⊢
    have HO7 := hdn z2
    have o7 := z2.cell 1
    clear z2
    have o6 := HO7.out.cell 0
    have o8 := HO7.out.cell 2
    have hOH : O ≠ w.heap.size + 1 := by have := HW2.out; omega
    have hOH' : w.heap.size + 1 ≠ O := fun e => hOH e.symm
    have HS : Hid (∀ w', Gr w7 w' (fun k => k = w.heap.size + 1) → w'.cell? ⟨O, 0, none⟩ = some (.int .i64 F) ∧ w'.cell? ⟨O, 1, none⟩ = some (.slice (some ⟨g7, 0, none⟩) (cs.length + 1) cap7) ∧ w'.cell? ⟨O, 2, none⟩ = some (.bool true)) := hdn (fun w' hg => by
      have hb := hg.bk HO7.out (by omega)
      exact ⟨hb.cell 0, hb.cell 1, hb.cell 2⟩)
    have HG0 : Hid (Gr w7 w7.drew (fun k => k = w.heap.size + 1)) := hdn (Gr.refl w7 _).drew
    have r0 : w7.drew.cell? ⟨w.heap.size + 1, 0, none⟩ = some (.int .i64 0) := ZR.out.cell 0
    have r1 : w7.drew.cell? ⟨w.heap.size + 1, 1, none⟩ = some (.slice none 0 0) := ZR.out.cell 1
    have r2 : w7.drew.cell? ⟨w.heap.size + 1, 2, none⟩ = some (.bool false) := ZR.out.cell 2
    have r1' : w7.cell? ⟨w.heap.size + 1, 1, none⟩ = some (.slice none 0 0) := ZR.out.cell 1
    have r2' : w7.cell? ⟨w.heap.size + 1, 2, none⟩ = some (.bool false) := ZR.out.cell 2
    have f1' := ZR.out.frozen 1
    have f2' := ZR.out.frozen 2
    have f0 : w7.drew.frozen? ⟨w.heap.size + 1, 0, none⟩ = false := ZR.out.frozen 0
    have f1 : w7.drew.frozen? ⟨w.heap.size + 1, 1, none⟩ = false := ZR.out.frozen 1
    have f2 : w7.drew.frozen? ⟨w.heap.size + 1, 2, none⟩ = false := ZR.out.frozen 2
    have HG3 : Hid (Gr w7 (((w7.setCell ⟨w.heap.size + 1, 0, none⟩ (.int .i64 F)).setCell ⟨w.heap.size + 1, 1, none⟩ (.slice (some ⟨g7, 0, none⟩) (cs.length + 1) cap7)).setCell ⟨w.heap.size + 1, 2, none⟩ (.bool true)).drew (fun k => k = w.heap.size + 1)) := hdn ((((Gr.refl w7 (fun k => k = w.heap.size + 1)).setCell (p := ⟨w.heap.size + 1, 0, none⟩) (fun _ => rfl) _).setCell (p := ⟨w.heap.size + 1, 1, none⟩) (fun _ => rfl) _).setCell (p := ⟨w.heap.size + 1, 2, none⟩) (fun _ => rfl) _).drew
    have HRR : Hid (Bk (((w7.setCell ⟨w.heap.size + 1, 0, none⟩ (.int .i64 F)).setCell ⟨w.heap.size + 1, 1, none⟩ (.slice (some ⟨g7, 0, none⟩) (cs.length + 1) cap7)).setCell ⟨w.heap.size + 1, 2, none⟩ (.bool true)).drew (w.heap.size + 1) 59 (RefA F (.slice (some ⟨g7, 0, none⟩) (cs.length + 1) cap7))) := hdn (by
      have hd : Bk w7 (w.heap.size + 1) 59 #[.int .i64 0, .slice none 0 0, .bool false] := ZR.out
      exact ((hd.set_ 0 _).set_ 1 _).set_ 2 _)
    go_wp2_with fail
    clear o6 o7 o8
    have HEND : Hid (RefP F w (cs ++ [newC F t]) (cs.length + 1 : Nat) (.returned (.tuple #[.agg (RefA F (.slice (some ⟨g7, 0, none⟩) (cs.length + 1) cap7)), .int .i64 (cs.length + 1 : Nat)])) (((w7.setCell ⟨w.heap.size + 1, 0, none⟩ (.int .i64 F)).setCell ⟨w.heap.size + 1, 1, none⟩ (.slice (some ⟨g7, 0, none⟩) (cs.length + 1) cap7)).setCell ⟨w.heap.size + 1, 2, none⟩ (.bool true)).drew) := hdn (ref_end Z1.out HG3.out Z3.out Z4.out HBXX.out HN2'.out HW2.out HOO.out.lt)
    go_region_held3 (fun w' => w'.cell? ⟨O, 0, none⟩ = some (.int .i64 F) ∧ w'.cell? ⟨O, 1, none⟩ = some (.slice (some ⟨g7, 0, none⟩) (cs.length + 1) cap7) ∧ w'.cell? ⟨O, 2, none⟩ = some (.bool true)) (first | exact HS.out _ HG3.out | exact HS.out _ HG0.out | fail) (fail)
  all_goals go_wp2_with fail
  all_goals exact bodyPost_ret (results_heap Tryd.results30 rfl rfl HRR.out) rfl HEND.out
end Go.Proofs.YtebmhadpkncgfaaDoor
namespace Go.Proofs.YtebmhadpkncgfaaDoor
open Go.RowKit Go.Maps
/-- What a call on the document's heap hands back: a heap, old or new, and a number. -/
def RefQ (F : Nat) (w : World) (N : Nat → Prop) (cs : List PC) (n : Int) (e : Ending) (w' : World) : Prop :=
  ∃ v N', e = .returned (.tuple #[.agg (RefA F v), .int .i64 n]) ∧ Out F w' N' v cs ∧ (∀ b, N' b → N b ∨ w.heap.size ≤ b) ∧ Below w.heap.size w w'
/-- The frame of such a call: the heap that came in, boxed, and the result's block. -/
structure FrA (F : Nat) (w wr : World) (v : Value) : Prop where
  box : Bk wr w.heap.size 59 (RefA F v)
  res : Bk wr (w.heap.size + 1) 59 #[.int .i64 0, .slice none 0 0, .bool false]
  below : Below w.heap.size w wr
theorem FrA.start (F : Nat) (w : World) (v : Value) : FrA F w ((w.alloc (.cells (RefA F v) 59)).alloc (.cells #[.int .i64 0, .slice none 0 0, .bool false] 59)) v := by
  have e1 : (w.alloc (.cells (RefA F v) 59)).heap.size = w.heap.size + 1 := by simp
  have b1 : Bk (w.alloc (.cells (RefA F v) 59)) w.heap.size 59 (RefA F v) := (MapKept.heap_alloc w _).1
  exact ⟨b1.below (alloc_below _ _) b1.lt, by rw [← e1]; exact (MapKept.heap_alloc _ _).1, ((Below.refl _ _).alloc (Nat.le_refl _) _).alloc (by simp) _⟩
theorem FrA.go {F : Nat} {w wr wz : World} {v : Value} (h : FrA F w wr v) (hb : Below wr.heap.size wr wz) : FrA F w wz v :=
  ⟨h.box.below hb h.box.lt, h.res.below hb h.res.lt, h.below.trans (hb.mono h.below.size)⟩
/-- The result's block has been written. -/
theorem ref_ret {F : Nat} {w wr wz : World} {v v' : Value} {N N' : Nat → Prop} {cs : List PC} {n : Int} {cur : Array Value} (h : FrA F w wr v) (ho : Out F wr N' v' cs) (hN : ∀ b, N' b → (N b ∨ w.heap.size ≤ b) ∧ b ≠ w.heap.size + 1)
    (q1 : Bk wz (w.heap.size + 1) 59 cur) (q2 : cur.size = (#[.int .i64 0, .slice none 0 0, .bool false] : Array Value).size) (q3 : ∀ j, j < (RefA F v').size → cur[0 + j]? = (RefA F v')[j]?) (q5 : wr.grownBy wz (some (w.heap.size + 1))) :
    Bk wz (w.heap.size + 1) 59 (RefA F v') ∧ RefQ F w N cs n (.returned (.tuple #[.agg (RefA F v'), .int .i64 n])) wz := by
  refine ⟨own_res q2 q3 ▸ q1, v', N', rfl, Kin.Lie.gr ho (Gr.of_grown q5) (fun k hk e => by injection e with e; exact (hN k hk).2 e), fun b hb => (hN b hb).1, h.below.grown q5 h.below.size (fun j hj => by injection hj with hj; omega)⟩
/-- One item of a heap of the document's has become another one; its places lie in the same block. -/
theorem Out.put {F : Nat} {w : World} {N : Nat → Prop} {v : Value} {cs : List PC} (h : Out F w N v cs) {i f : Nat} {x : PC} (hi : cs[i]? = some x) (hf : f < F) (t : Int) :
    ∃ g cap q cq u, v = .slice (some ⟨g, 0, none⟩) cs.length cap ∧ w.cell? ⟨g, i * 3 + 2, none⟩ = some (.slice (some ⟨q, 0, none⟩) F cq) ∧ w.cell? ⟨q, f, none⟩ = some u ∧ w.frozen? ⟨q, f, none⟩ = false ∧ N q ∧
      Out F (w.setCell ⟨q, f, none⟩ (.int .i64 t)) N v (cs.set i (putTo x f t)) := by
  obtain ⟨g, cap, cur, fm, hv, ha⟩ := Out.sl h hi
  have hs := ha.sub i x hi
  have hil : i < cs.length := (List.getElem?_eq_some_iff.1 hi).1
  rcases hs.2.1.2 with ⟨e, _⟩ | ⟨q, cq, cr, e, _, hb, hr, hm, hsz, ht⟩
  · exact absurd e hs.2.2
  · have hbk : Bk w q 3 cr := hb
    have hblk : (CellK F).blk (fm i) = some q := by show (fm i).ownBlock = _; rw [e]; rfl
    have hown := ha.own i q hil hblk
    have hfl : f < cr.size := by rw [hsz]; omega
    have hgr : w.grownBy (w.setCell ⟨q, f, none⟩ (.int .i64 t)) (some q) := grownBy_setC w _ _
    refine ⟨g, cap, q, cq, cr[f], hv, (ha.at_cell hi 2 _ rfl).trans (by rw [e]), by rw [hbk.cell]; exact Array.getElem?_eq_getElem hfl, hbk.frozen f, hown.1, fun k hk => by have := h.1 k hk; simpa [World.setCell] using this, .inr ⟨g, cap, cur, _, by rw [List.length_set]; exact hv, ha.put (S := fun k => some k = some q) (b' := fm i) hi (Gr.of_grown hgr) (ha.row.far (by show g ≠ q; exact fun e => hown.2 e.symm) _) rfl (fun j hj => ha.cell i x hi j hj) (fun _ _ => rfl) ⟨(putTo_len x f t).trans hs.1, ⟨by simp [ints, putTo_len, hs.1], .inr ⟨q, cq, _, e, Nat.zero_le _, hbk.set_ f _, hr, hm, by simpa using hsz, ?_⟩⟩, hs.2.2⟩ (fun k _ hk => .inr (by rw [hblk]; exact hk.symm)) (fun _ h => h) h.1 (.inl rfl)⟩⟩
    rw [Array.toList_setIfInBounds, List.take_set, ht]
    unfold ints putTo
    simp [List.map_set]
theorem refPut_any (F : Nat) (N : Nat → Prop) (cs : List PC) (v : Value) (c f t : Int) (w : World) (h : Out F w N v cs) (hF : F ≤ 2000000) (hn : cs.length ≤ 2000000) :
    Calls Tryd.prog 29 #[.agg (RefA F v), .int .i64 c, .int .i64 f, .int .i64 t] w (RefQ F w N (putC F cs c f t) (faultC cs c)) := by
  have hfr := FrA.start F w v
  have hN : ∀ b, N b → (N b ∨ w.heap.size ≤ b) ∧ b ≠ w.heap.size + 1 := fun b hb => ⟨.inl hb, by have := h.1 b hb; omega⟩
  have HFR := hdn hfr
  have HH := hdn h
  have HN := hdn hN
  have HFA := hdn (fault_any F N cs v c _ (Kin.Lie.below h hfr.below) hn)
  obtain ⟨pv, cv, rfl⟩ := h.form
  by_cases hf : faultC cs c = 0
  · rcases fault_ways cs c with ⟨_, hf'⟩ | ⟨i, x, rfl, hi, hil, hw⟩
    · rw [hf] at hf'; cases hf'
    · have hx : x.fr = false := by
        rcases hw with ⟨_, h2⟩ | ⟨h1, _⟩
        · rw [hf] at h2; cases h2
        · exact h1
      rw [hf] at HFA
      cases hfi : isField F f with
      | false =>
        rw [putC_no F cs _ f t (.inr hfi), hf]
        clear hw hf h hx hi hfr hN
        by_cases hf0 : f < 0
        · have hd : decide (f < 0) = true := decide_eq_true hf0
          clear hf0 hfi
          go_enter Tryd.func29, Tryd.ntmps29
          go_wp2_with (first | ((with_reducible show wpList _ _ _ (Oper.mk (some 12) _ _ _ _ _ :: _) _ _); refine wpList_load_bk rfl 59 (.tmp 4) rfl w.heap.size 59 (RefA F (.slice pv cs.length cv)) rfl _ HFR.out.box Tryd.underlying59 rfl size29 ?_))
          generalize (w.alloc (.cells (RefA F (.slice pv cs.length cv)) 59)).alloc (.cells #[.int .i64 0, .slice none 0 0, .bool false] 59) = w1 at HFR HFA ⊢
          refine HFA.out.mono ?_; rintro e w2 ⟨rfl, hb2⟩
          have HF2 := hdn (HFR.out.go hb2)
          have HR2 := hdn HF2.out.res
          have HO2 := hdn (Kin.Lie.below HH.out HF2.out.below)
          clear hb2 HFA HFR
          go_wp2_with (first | ((with_reducible show wpList _ _ _ (Oper.mk (some 27) _ _ _ _ _ :: _) _ _); refine wpList_load_bk rfl 59 (.tmp 4) rfl w.heap.size 59 (RefA F (.slice pv cs.length cv)) rfl _ HF2.out.box Tryd.underlying59 rfl size29 ?_) | ((with_reducible show wpList _ _ _ (Oper.mk none (Op.store 59 _ _) _ _ _ _ :: _) _ _); refine wpList_store_part rfl 59 (.tmp 8) (.tmp 27) rfl (w.heap.size + 1) 0 59 _ (RefA F (.slice pv cs.length cv)) rfl rfl HR2.out size29 (by simp) (HO2.out.oneA) ?_; intro wz cur q1 q2 q3 q4 q5; obtain ⟨y1, y2⟩ := ref_ret (N := N) (n := 0) HF2.out HO2.out HN.out q1 q2 q3 q5; have Y1 := hdn y1; have Y2 := hdn y2; clear q1 q2 q3 q4 q5 y1 y2))
          exact bodyPost_ret (results_heap Tryd.results29 rfl rfl Y1.out) rfl Y2.out
        · have hd : decide (f < 0) = false := decide_eq_false hf0
          have hd2 : decide ((F : Int) ≤ f) = true := by
            unfold isField at hfi
            simp at hfi
            exact decide_eq_true (hfi (by omega))
          clear hf0 hfi
          go_enter Tryd.func29, Tryd.ntmps29
          go_wp2_with (first | ((with_reducible show wpList _ _ _ (Oper.mk (some 12) _ _ _ _ _ :: _) _ _); refine wpList_load_bk rfl 59 (.tmp 4) rfl w.heap.size 59 (RefA F (.slice pv cs.length cv)) rfl _ HFR.out.box Tryd.underlying59 rfl size29 ?_))
          generalize (w.alloc (.cells (RefA F (.slice pv cs.length cv)) 59)).alloc (.cells #[.int .i64 0, .slice none 0 0, .bool false] 59) = w1 at HFR HFA ⊢
          refine HFA.out.mono ?_; rintro e w2 ⟨rfl, hb2⟩
          have HF2 := hdn (HFR.out.go hb2)
          have HR2 := hdn HF2.out.res
          have HO2 := hdn (Kin.Lie.below HH.out HF2.out.below)
          clear hb2 HFA HFR
          have c0 : w2.cell? ⟨w.heap.size, 0, none⟩ = some (.int .i64 F) := HF2.out.box.cell 0
          go_wp2_with (first | ((with_reducible show wpList _ _ _ (Oper.mk (some 27) _ _ _ _ _ :: _) _ _); refine wpList_load_bk rfl 59 (.tmp 4) rfl w.heap.size 59 (RefA F (.slice pv cs.length cv)) rfl _ HF2.out.box Tryd.underlying59 rfl size29 ?_) | ((with_reducible show wpList _ _ _ (Oper.mk none (Op.store 59 _ _) _ _ _ _ :: _) _ _); refine wpList_store_part rfl 59 (.tmp 8) (.tmp 27) rfl (w.heap.size + 1) 0 59 _ (RefA F (.slice pv cs.length cv)) rfl rfl HR2.out size29 (by simp) (HO2.out.oneA) ?_; intro wz cur q1 q2 q3 q4 q5; obtain ⟨y1, y2⟩ := ref_ret (N := N) (n := 0) HF2.out HO2.out HN.out q1 q2 q3 q5; have Y1 := hdn y1; have Y2 := hdn y2; clear q1 q2 q3 q4 q5 y1 y2))
          exact bodyPost_ret (results_heap Tryd.results29 rfl rfl Y1.out) rfl Y2.out
      | true =>
        obtain ⟨k, hk, rfl⟩ := isField_iff.1 hfi
        rw [putC_at F cs i k t x hi hx hk, hf]
        have HT := hdn (fun w' => there_any F cs.length cv pv t w')
        have HOW := hdn (fun (w3 : World) (hb : Below w.heap.size w w3) => own_any F N cs (.slice pv cs.length cv) w3 (Kin.Lie.below HH.out hb) hF hn)
        have HI := hdn hi
        have hi1 : ((i : Int) + 1 - 1) = (i : Int) := by omega
        have hi2 : (i : Int) < (cs.length : Int) := by omega
        have hi0 : (0 : Int) ≤ (i : Int) := Int.natCast_nonneg _
        have hiB : (i : Int) ≤ 2000000 := by omega
        have hk0 : decide ((k : Int) < 0) = false := decide_eq_false (by omega)
        have hk1 : decide ((F : Int) ≤ (k : Int)) = false := decide_eq_false (by omega)
        have hk2 : decide (F ≤ k) = false := decide_eq_false (by omega)
        have hk3 : (0 : Int) ≤ (k : Int) := Int.natCast_nonneg _
        have hk4 : (k : Int) < (F : Int) := by omega
        clear hf hw h hx hi hfr hN hfi
        go_enter Tryd.func29, Tryd.ntmps29
        go_wp2_with (first | ((with_reducible show wpList _ _ _ (Oper.mk (some 12) _ _ _ _ _ :: _) _ _); refine wpList_load_bk rfl 59 (.tmp 4) rfl w.heap.size 59 (RefA F (.slice pv cs.length cv)) rfl _ HFR.out.box Tryd.underlying59 rfl size29 ?_))
        generalize (w.alloc (.cells (RefA F (.slice pv cs.length cv)) 59)).alloc (.cells #[.int .i64 0, .slice none 0 0, .bool false] 59) = w1 at HFR HFA ⊢
        refine HFA.out.mono ?_; rintro e w2 ⟨rfl, hb2⟩
        have HF2 := hdn (HFR.out.go hb2)
        have c0 : w2.cell? ⟨w.heap.size, 0, none⟩ = some (.int .i64 F) := HF2.out.box.cell 0
        clear hb2 HFA HFR
        go_wp2_with (first | ((with_reducible show wpList _ _ _ (Oper.mk (some 28) _ _ _ _ _ :: _) _ _); refine wpList_load_bk rfl 59 (.tmp 4) rfl w.heap.size 59 (RefA F (.slice pv cs.length cv)) rfl _ HF2.out.box Tryd.underlying59 rfl size29 ?_))
        refine (HT.out w2).mono ?_; rintro e w3 ⟨rfl, hb3⟩
        have HF3 := hdn (HF2.out.go hb3)
        clear hb3 HF2 c0
        have HOW3 := hdn (HOW.out w3 HF3.out.below)
        have HEQ : Hid (okTo cs.length t = if isCell cs.length t = true then t else 0) := hdn rfl
        generalize isCell cs.length t = ic at HEQ ⊢
        cases ic
        all_goals
          go_wp2_with (first | ((with_reducible show wpList _ _ _ (Oper.mk (some 32) _ _ _ _ _ :: _) _ _); refine wpList_load_bk rfl 59 (.tmp 4) rfl w.heap.size 59 (RefA F (.slice pv cs.length cv)) rfl _ HF3.out.box Tryd.underlying59 rfl size29 ?_))
          refine HOW3.out.mono ?_; rintro e w4 ⟨v4, N4, rfl, ho4, hn4, hb4⟩
          have HF4 := hdn (HF3.out.go hb4)
          have HO4 := hdn ho4
          have HN4 : Hid (∀ b, N4 b → w.heap.size + 2 ≤ b) := hdn (fun b hb => by have := hn4 b hb; have := HF3.out.res.lt; omega)
          clear ho4 hn4 hb4
          go_upto_region 9 with (first | ((with_reducible show wpList _ _ _ (Oper.mk none (Op.store _ _ _) _ _ _ _ :: _) _ _); refine wpList_store_new rfl 59 (.tmp 11) (.tmp 33) rfl _ (RefA F v4) rfl rfl size29 rfl HO4.out.oneA ?_))
          have hbX := alloc_below w4 (.cells (RefA F v4) 59)
          have HFX := hdn (HF4.out.go hbX)
          have HOX : Hid (Out F (w4.alloc (.cells (RefA F v4) 59)) N4 v4 cs) := hdn (Kin.Lie.below HO4.out hbX)
          have HOO : Hid (Bk (w4.alloc (.cells (RefA F v4) 59)) w4.heap.size 59 (RefA F v4)) := hdn (MapKept.heap_alloc w4 _).1
          have HON : Hid (∀ b, N4 b → b ≠ w4.heap.size) := hdn (fun b hb e => by have := HO4.out.1 b hb; omega)
          generalize w4.alloc (.cells (RefA F v4) 59) = wX at HFX HOX HOO ⊢
          generalize w4.heap.size = O at HOO HON ⊢
          clear hbX
        · have HEQ' : Hid (okTo cs.length t = 0) := hdn (HEQ.out.trans (by simp))
          obtain ⟨g, cp, q, cq, u, rfl, p1, p2, p3, p4, p5⟩ := Out.put HOX.out HI.out (show k < F by omega) 0
          have o1 := HOO.out.cell 1
          have HF5 : Hid (FrA F w (wX.setCell ⟨q, k, none⟩ (.int .i64 0)) (.slice pv cs.length cv)) := hdn ⟨HFX.out.box.far (by show w.heap.size ≠ q; have := HN4.out q p4; omega) _, HFX.out.res.far (by show w.heap.size + 1 ≠ q; have := HN4.out q p4; omega) _, HFX.out.below.setCell (by show w.heap.size ≤ q; have := HN4.out q p4; omega) _⟩
          have HO5 := hdn p5
          have HOO5 : Hid (Bk (wX.setCell ⟨q, k, none⟩ (.int .i64 0)) O 59 _) := hdn (HOO.out.far (by show O ≠ q; exact fun e => HON.out q p4 e.symm) _)
          have HR5 := hdn HF5.out.res
          clear p4 p5
          go_upto_region 10 with fail
          generalize wX.setCell ⟨q, k, none⟩ (.int .i64 0) = w5 at HF5 HO5 HOO5 HR5 ⊢
          go_wp2_with (first | ((with_reducible show wpList _ _ _ (Oper.mk (some 44) _ _ _ _ _ :: _) _ _); refine wpList_load_bk rfl 59 (.tmp 11) rfl O 59 (RefA F (.slice (some ⟨g, 0, none⟩) cs.length cp)) rfl _ HOO5.out Tryd.underlying59 rfl size29 ?_) | ((with_reducible show wpList _ _ _ (Oper.mk none (Op.store 59 _ _) _ _ _ _ :: _) _ _); refine wpList_store_part rfl 59 (.tmp 8) (.tmp 44) rfl (w.heap.size + 1) 0 59 _ (RefA F (.slice (some ⟨g, 0, none⟩) cs.length cp)) rfl rfl HR5.out size29 (by simp) (HO5.out.oneA) ?_; intro wz cur q1 q2 q3 q4 q5; obtain ⟨y1, y2⟩ := ref_ret (N := N) (n := 0) HF5.out HO5.out (fun b hb => ⟨.inr (by have := HN4.out b hb; omega), by have := HN4.out b hb; omega⟩) q1 q2 q3 q5; have Y1 := hdn y1; have Y2 := hdn y2; clear q1 q2 q3 q4 q5 y1 y2))
          exact bodyPost_ret (results_heap Tryd.results29 rfl rfl Y1.out) rfl (by rw [HEQ'.out]; exact Y2.out)
        · have HEQ' : Hid (okTo cs.length t = t) := hdn (HEQ.out.trans (by simp))
          obtain ⟨g, cp, q, cq, u, rfl, p1, p2, p3, p4, p5⟩ := Out.put HOX.out HI.out (show k < F by omega) t
          have o1 := HOO.out.cell 1
          have HF5 : Hid (FrA F w (wX.setCell ⟨q, k, none⟩ (.int .i64 t)) (.slice pv cs.length cv)) := hdn ⟨HFX.out.box.far (by show w.heap.size ≠ q; have := HN4.out q p4; omega) _, HFX.out.res.far (by show w.heap.size + 1 ≠ q; have := HN4.out q p4; omega) _, HFX.out.below.setCell (by show w.heap.size ≤ q; have := HN4.out q p4; omega) _⟩
          have HO5 := hdn p5
          have HOO5 : Hid (Bk (wX.setCell ⟨q, k, none⟩ (.int .i64 t)) O 59 _) := hdn (HOO.out.far (by show O ≠ q; exact fun e => HON.out q p4 e.symm) _)
          have HR5 := hdn HF5.out.res
          clear p4 p5
          go_upto_region 10 with fail
          generalize wX.setCell ⟨q, k, none⟩ (.int .i64 t) = w5 at HF5 HO5 HOO5 HR5 ⊢
          go_wp2_with (first | ((with_reducible show wpList _ _ _ (Oper.mk (some 44) _ _ _ _ _ :: _) _ _); refine wpList_load_bk rfl 59 (.tmp 11) rfl O 59 (RefA F (.slice (some ⟨g, 0, none⟩) cs.length cp)) rfl _ HOO5.out Tryd.underlying59 rfl size29 ?_) | ((with_reducible show wpList _ _ _ (Oper.mk none (Op.store 59 _ _) _ _ _ _ :: _) _ _); refine wpList_store_part rfl 59 (.tmp 8) (.tmp 44) rfl (w.heap.size + 1) 0 59 _ (RefA F (.slice (some ⟨g, 0, none⟩) cs.length cp)) rfl rfl HR5.out size29 (by simp) (HO5.out.oneA) ?_; intro wz cur q1 q2 q3 q4 q5; obtain ⟨y1, y2⟩ := ref_ret (N := N) (n := 0) HF5.out HO5.out (fun b hb => ⟨.inr (by have := HN4.out b hb; omega), by have := HN4.out b hb; omega⟩) q1 q2 q3 q5; have Y1 := hdn y1; have Y2 := hdn y2; clear q1 q2 q3 q4 q5 y1 y2))
          exact bodyPost_ret (results_heap Tryd.results29 rfl rfl Y1.out) rfl (by rw [HEQ'.out]; exact Y2.out)
  · rw [putC_no F cs c f t (.inl hf)]
    generalize hk : faultC cs c = k at hf HFA ⊢
    have hk1 : (k == 0) = false := by simpa using hf
    have hk2 : (k != 0) = true := by simpa using hf
    clear hk h hf hfr hN
    go_enter Tryd.func29, Tryd.ntmps29
    go_wp2_with (first | ((with_reducible show wpList _ _ _ (Oper.mk (some 12) _ _ _ _ _ :: _) _ _); refine wpList_load_bk rfl 59 (.tmp 4) rfl w.heap.size 59 (RefA F (.slice pv cs.length cv)) rfl _ HFR.out.box Tryd.underlying59 rfl size29 ?_))
    generalize (w.alloc (.cells (RefA F (.slice pv cs.length cv)) 59)).alloc (.cells #[.int .i64 0, .slice none 0 0, .bool false] 59) = w1 at HFR HFA ⊢
    refine HFA.out.mono ?_; rintro e w2 ⟨rfl, hb2⟩
    have HF2 := hdn (HFR.out.go hb2)
    have HR2 := hdn HF2.out.res
    have HO2 := hdn (Kin.Lie.below HH.out HF2.out.below)
    clear hb2 HFA HFR
    go_wp2_with (first | ((with_reducible show wpList _ _ _ (Oper.mk (some 17) _ _ _ _ _ :: _) _ _); refine wpList_load_bk rfl 59 (.tmp 4) rfl w.heap.size 59 (RefA F (.slice pv cs.length cv)) rfl _ HF2.out.box Tryd.underlying59 rfl size29 ?_) | ((with_reducible show wpList _ _ _ (Oper.mk none (Op.store 59 _ _) _ _ _ _ :: _) _ _); refine wpList_store_part rfl 59 (.tmp 8) (.tmp 17) rfl (w.heap.size + 1) 0 59 _ (RefA F (.slice pv cs.length cv)) rfl rfl HR2.out size29 (by simp) (HO2.out.oneA) ?_; intro wz cur q1 q2 q3 q4 q5; obtain ⟨y1, y2⟩ := ref_ret (N := N) (n := k) HF2.out HO2.out HN.out q1 q2 q3 q5; have Y1 := hdn y1; have Y2 := hdn y2; clear q1 q2 q3 q4 q5 y1 y2))
    exact bodyPost_ret (results_heap Tryd.results29 rfl rfl Y1.out) rfl Y2.out
end Go.Proofs.YtebmhadpkncgfaaDoor
