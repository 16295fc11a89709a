/-
  DERIVED. Cells as they are handed out: their places lie in one row.
-/
import Derived.Test.YtocgallcmgnmgaaHn
namespace Go.Proofs.Ytocgallcmgnmgaa
open Go.RowKit Go.Maps

/-- Cells that were handed out, as they read: all of them in blocks of N. -/
def OutR (F : Nat) (w : World) (N : Nat → Prop) (v : Value) (cs : List PC) : Prop :=
  ∃ p cap, v = .slice p cs.length cap ∧ (∀ k, N k → k < w.heap.size) ∧ ∀ i x, cs[i]? = some x → ∃ g q o cq, p = some ⟨g, 0, none⟩ ∧ N g ∧ N q ∧
    w.rangeAt g (i * 3) [.int .i64 x.ty, .bool x.fr, .slice (some ⟨q, o, none⟩) F cq] ∧ w.rangeAt q o (ints x.to) ∧ x.to.length = F
theorem OutR.gr {F : Nat} {w w' : World} {N S : Nat → Prop} {v : Value} {cs : List PC} (h : OutR F w N v cs) (hg : Gr w w' S) (hS : ∀ k, N k → ¬ S k) : OutR F w' N v cs := by
  obtain ⟨p, cap, hv, hN, hx⟩ := h
  refine ⟨p, cap, hv, fun k hk => Nat.lt_of_lt_of_le (hN k hk) hg.size, fun i x hi => ?_⟩
  obtain ⟨g, q, o, cq, h1, h2, h3, h4, h5, h6⟩ := hx i x hi
  exact ⟨g, q, o, cq, h1, h2, h3, hg.range h4 (hS g h2), hg.range h5 (hS q h3), h6⟩
theorem OutR.below {F : Nat} {w w' : World} {N : Nat → Prop} {v : Value} {cs : List PC} (h : OutR F w N v cs) (hb : Below w.heap.size w w') : OutR F w' N v cs := h.gr (Gr.of_below (S := fun _ => False) hb) (fun _ _ h => h)
theorem OutR.form {F : Nat} {w : World} {N : Nat → Prop} {v : Value} {cs : List PC} (h : OutR F w N v cs) : ∃ p cap, v = .slice p cs.length cap := by
  obtain ⟨p, cap, hv, _⟩ := h
  exact ⟨p, cap, hv⟩
/-- All places, one cell behind the other. -/
def flat (cs : List PC) : List Int := cs.flatMap (·.to)
theorem flat_len {F : Nat} {cs : List PC} (h : ∀ x ∈ cs, x.to.length = F) : (flat cs).length = cs.length * F := by
  induction cs with
  | nil => simp [flat]
  | cons x cs ih =>
    have h1 := ih (fun y hy => h y (List.mem_cons_of_mem _ hy))
    have h2 := h x List.mem_cons_self
    unfold flat at h1 ⊢
    rw [List.flatMap_cons, List.length_append, h1, h2, List.length_cons, Nat.succ_mul]; omega
theorem flat_get {F : Nat} {cs : List PC} (h : ∀ x ∈ cs, x.to.length = F) {i : Nat} {x : PC} (hi : cs[i]? = some x) {j : Nat} (hj : j < F) : (flat cs)[i * F + j]? = x.to[j]? := by
  induction cs generalizing i with
  | nil => simp at hi
  | cons y cs ih =>
    have h1 := h y List.mem_cons_self
    unfold flat at ih ⊢
    rw [List.flatMap_cons]
    cases i with
    | zero =>
      simp at hi; subst hi
      rw [Nat.zero_mul, Nat.zero_add, List.getElem?_append_left (by omega)]
    | succ i =>
      simp at hi
      rw [List.getElem?_append_right (by rw [Nat.succ_mul]; omega), h1, show (i + 1) * F + j - F = i * F + j by rw [Nat.succ_mul]; omega]
      exact ih (fun y hy => h y (List.mem_cons_of_mem _ hy)) hi
theorem flat_snoc (cs : List PC) (x : PC) : flat (cs ++ [x]) = flat cs ++ x.to := by simp [flat]
theorem zeros_add (m n : Nat) : zeros (m + n) = zeros m ++ zeros n := by simp [zeros, List.replicate_append_replicate]

/-- Cells under way: k of them are there. -/
structure CellsI (F : Nat) (w wr : World) (k : Nat) (cs : List PC) : Prop where
  row : ∃ cur, Bk wr w.heap.size 46 cur ∧ cur.size = cs.length * 3 ∧ ∀ i x, i < k → cs[i]? = some x → ∀ j v, ([.int .i64 x.ty, .bool x.fr, .slice (some ⟨w.heap.size + 1, i * F, none⟩) F F] : List Value)[j]? = some v → cur[i * 3 + j]? = some v
  room : Bk wr (w.heap.size + 1) 3 (rowP (flat (cs.take k)) (zeros ((cs.length - k) * F)) [])
  below : Below w.heap.size w wr
/-- What Cells hands out. -/
def CellsP (F : Nat) (w : World) (cs : List PC) (e : Ending) (w' : World) : Prop :=
  ∃ v, e = .returned v ∧ OutR F w' (fun k => w.heap.size ≤ k ∧ k < w'.heap.size) v cs ∧ Below w.heap.size w w'
theorem CellsI.end_ {F : Nat} {w wr : World} {cs : List PC} (h : CellsI F w wr cs.length cs) (hF : ∀ x ∈ cs, x.to.length = F) : CellsP F w cs (.returned (.slice (some ⟨w.heap.size, 0, none⟩) cs.length cs.length)) wr := by
  obtain ⟨cur, hb, hs, hc⟩ := h.row
  refine ⟨_, rfl, ⟨_, _, rfl, fun k hk => hk.2, fun i x hi => ?_⟩, h.below⟩
  have hil : i < cs.length := (List.getElem?_eq_some_iff.1 hi).1
  refine ⟨w.heap.size, w.heap.size + 1, i * F, F, rfl, ⟨Nat.le_refl _, hb.lt⟩, ⟨Nat.le_succ _, h.room.lt⟩, fun j v hv => ?_, fun j v hv => ?_, hF x (List.mem_of_getElem? hi)⟩
  · rw [hb.cell]; exact hc i x hil hi j v hv
  · have hj : j < F := by
      have := (List.getElem?_eq_some_iff.1 hv).1
      have h2 := hF x (List.mem_of_getElem? hi)
      simp [ints] at this; omega
    have hr := h.room
    rw [List.take_length, Nat.sub_self, Nat.zero_mul] at hr
    rw [hr.cell]
    have : rowP (flat cs) (zeros 0) [] = (ints (flat cs)).toArray := by simp [rowP, zeros]
    rw [this, List.getElem?_toArray]
    unfold ints at hv ⊢
    rw [List.getElem?_map, flat_get hF hi hj, ← List.getElem?_map]
    exact hv
/-- How the room lies ahead of the next cell. -/
theorem CellsI.room_at {F : Nat} {w wr : World} {cs : List PC} {k : Nat} (h : CellsI F w wr k cs) (hk : k < cs.length) : Bk wr (w.heap.size + 1) 3 (rowP (flat (cs.take k)) (zeros F) (zeros ((cs.length - (k + 1)) * F))) := by
  have hr := h.room
  have : rowP (flat (cs.take k)) (zeros ((cs.length - k) * F)) [] = rowP (flat (cs.take k)) (zeros F) (zeros ((cs.length - (k + 1)) * F)) := by
    unfold rowP
    rw [show cs.length - k = (cs.length - (k + 1)) + 1 by omega, Nat.succ_mul, Nat.add_comm, zeros_add, List.append_nil]
  rwa [this] at hr
/-- Behind the places of the next cell, and the three stores. -/
theorem CellsI.next {F : Nat} {w wr w2 : World} {cs : List PC} {k : Nat} {x : PC} (h : CellsI F w wr k cs) (hx : cs[k]? = some x)
    (hp : Bk w2 (w.heap.size + 1) 3 (rowP (flat (cs.take k)) x.to (zeros ((cs.length - (k + 1)) * F)))) (hg : Gr wr w2 (fun k => k = w.heap.size + 1)) :
    (∃ u0 u1 u2, w2.cell? ⟨w.heap.size, k * 3, none⟩ = some u0 ∧ w2.cell? ⟨w.heap.size, k * 3 + 1, none⟩ = some u1 ∧ w2.cell? ⟨w.heap.size, k * 3 + 2, none⟩ = some u2) ∧ (∀ j, w2.frozen? ⟨w.heap.size, j, none⟩ = false) ∧
    Hid (CellsI F w (((w2.setCell ⟨w.heap.size, k * 3, none⟩ (.int .i64 x.ty)).setCell ⟨w.heap.size, k * 3 + 1, none⟩ (.bool x.fr)).setCell ⟨w.heap.size, k * 3 + 2, none⟩ (.slice (some ⟨w.heap.size + 1, k * F, none⟩) F F)) (k + 1) cs) := by
  obtain ⟨cur, hb, hs, hc⟩ := h.row
  have hk : k < cs.length := (List.getElem?_eq_some_iff.1 hx).1
  have hb2 : Bk w2 w.heap.size 46 cur := hg.bk hb (by omega)
  have hsz : k * 3 + 3 ≤ cur.size := by have := Nat.mul_le_mul_right 3 (Nat.succ_le_of_lt hk); omega
  have hbl2 : Below w.heap.size w w2 := h.below.trans (hg.below (Nat.le_trans h.below.size (Nat.le_refl _)) (fun k e => by subst e; omega))
  refine ⟨⟨cur[k * 3], cur[k * 3 + 1], cur[k * 3 + 2], ?_, ?_, ?_⟩, fun j => hb2.frozen j, Lib.hid ⟨⟨_, ((hb2.set_ _ _).set_ _ _).set_ _ _, by simpa using hs, fun i y hi hy j v hv => ?_⟩, ?_, ?_⟩⟩
  · rw [hb2.cell]; exact Array.getElem?_eq_getElem (by omega)
  · rw [hb2.cell]; exact Array.getElem?_eq_getElem (by omega)
  · rw [hb2.cell]; exact Array.getElem?_eq_getElem (by omega)
  · have hj : j < 3 := (List.getElem?_eq_some_iff.1 hv).1
    by_cases e : i = k
    · subst e
      obtain rfl : x = y := by rw [hx] at hy; injection hy
      match j, hj with
      | 0, _ => simp at hv; subst hv; simp [Array.getElem?_setIfInBounds]; omega
      | 1, _ => simp at hv; subst hv; simp [Array.getElem?_setIfInBounds]; omega
      | 2, _ => simp at hv; subst hv; simp [Array.getElem?_setIfInBounds]; omega
    · have hik : i < k := by omega
      rw [Array.getElem?_setIfInBounds, if_neg (by omega), Array.getElem?_setIfInBounds, if_neg (by omega), Array.getElem?_setIfInBounds, if_neg (by omega)]
      exact hc i y hik hy j v hv
  · have ht : flat (cs.take (k + 1)) = flat (cs.take k) ++ x.to := by rw [List.take_add_one, hx]; exact flat_snoc _ _
    have e : rowP (flat (cs.take (k + 1))) (zeros ((cs.length - (k + 1)) * F)) [] = rowP (flat (cs.take k)) x.to (zeros ((cs.length - (k + 1)) * F)) := by
      unfold rowP; rw [ht, List.append_nil, List.append_assoc]
    rw [e]
    exact ((hp.far (p := ⟨w.heap.size, _, none⟩) (by simp) _).far (p := ⟨w.heap.size, _, none⟩) (by simp) _).far (p := ⟨w.heap.size, _, none⟩) (by simp) _
  · exact ((hbl2.setCell (Nat.le_refl _) _).setCell (Nat.le_refl _) _).setCell (Nat.le_refl _) _
end Go.Proofs.Ytocgallcmgnmgaa
