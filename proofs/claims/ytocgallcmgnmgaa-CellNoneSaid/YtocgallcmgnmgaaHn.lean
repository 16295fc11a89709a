/-
  DERIVED. Cells as they are handed out: items that each hold a row of places.
-/
import Derived.Test.YtocgallcmgnmgaaHm
namespace Go.Proofs.Ytocgallcmgnmgaa
open Go.RowKit Go.Maps

theorem Kin.At.snoc {α β : Type} {K : Kin α β} {w w' : World} {R R' S : Nat → Prop} {g cap : Nat} {cur cur' : Array Value} {fm : Nat → β} {xs : List α} (h : K.At w R g cap cur fm xs) {x' : α} {b' : β}
    (hg : Gr w w' S) (hrow : Bk w' g K.T cur') (hsz : cur'.size = cur.size) (hroom : xs.length < cap)
    (hin : ∀ j, j < K.sz → cur'[xs.length * K.sz + j]? = (K.cells x' b')[j]?) (hout : ∀ j, j < xs.length * K.sz → cur'[j]? = cur[j]?) (hsub : K.sub w' x' b')
    (hS : ∀ k, k < w.heap.size → S k → k = g) (hb : ∀ m, K.blk b' = some m → m ≠ g ∧ R' m ∧ ∀ i, i < xs.length → K.blk (fm i) ≠ some m) (hR : ∀ k, R k → R' k) :
    K.At w' R' g cap cur' (fun k => if k = xs.length then b' else fm k) (xs ++ [x']) where
  row := hrow
  mine := hR _ h.mine
  room := by simp; omega
  most := h.most
  size := hsz.trans h.size
  cell i x hi j hj := by
    by_cases e : i = xs.length
    · subst e
      simp at hi; subst hi
      simp only [if_pos]; exact hin j hj
    · have hil : i < xs.length := by have := (List.getElem?_eq_some_iff.1 hi).1; simp at this; omega
      rw [List.getElem?_append_left hil] at hi
      simp only [if_neg e]
      have hlt : i * K.sz + j < xs.length * K.sz := by
        have := Nat.mul_le_mul_right K.sz (Nat.succ_le_of_lt hil)
        rw [Nat.succ_mul] at this; omega
      rw [hout _ hlt]
      exact h.cell i x hi j hj
  sub i x hi := by
    by_cases e : i = xs.length
    · subst e
      simp at hi; subst hi
      simp only [if_pos]; exact hsub
    · have hil : i < xs.length := by have := (List.getElem?_eq_some_iff.1 hi).1; simp at this; omega
      rw [List.getElem?_append_left hil] at hi
      simp only [if_neg e]
      exact K.keep w w' x _ (h.sub i x hi) hg.size fun m hm => hg.block m (K.has w x _ m (h.sub i x hi) hm) fun hs => (h.own i m hil hm).2 (hS m (K.has w x _ m (h.sub i x hi) hm) hs)
  own i m hi hm := by
    by_cases e : i = xs.length
    · simp only [if_pos e] at hm
      exact ⟨(hb m hm).2.1, (hb m hm).1⟩
    · have hil : i < xs.length := by simp at hi; omega
      simp only [if_neg e] at hm
      exact ⟨hR _ (h.own i m hil hm).1, (h.own i m hil hm).2⟩
  apart i j m hij hj hm hm' := by
    have hjl : j < xs.length + 1 := by simpa using hj
    have e : i ≠ xs.length := by omega
    simp only [if_neg e] at hm
    by_cases e' : j = xs.length
    · simp only [if_pos e'] at hm'
      exact (hb m hm').2.2 i (by omega) hm
    · simp only [if_neg e'] at hm'
      exact h.apart i j m hij (by omega) hm hm'

theorem ownsRow_lt {w : World} {base : Nat} {e : TypeId} {size : Nat} {v : Value} {n m : Nat} {xs : List Value} (h : w.ownsRow base e size v n xs) (hv : v.ownBlock = some m) : m < w.heap.size := by
  rcases h.2 with ⟨e1, _⟩ | ⟨g, cap, cur, rfl, _, hb, _⟩
  · subst e1; cases hv
  · simp only [Value.ownBlock] at hv; injection hv with hv; subst hv
    exact (Array.getElem?_eq_some_iff.1 hb).1
theorem ownsRow_keep {w w' : World} {base : Nat} {e : TypeId} {size : Nat} {v : Value} {n : Nat} {xs : List Value} (h : w.ownsRow base e size v n xs) (hk : ∀ m, v.ownBlock = some m → w'.heap[m]? = w.heap[m]?) : w'.ownsRow base e size v n xs := by
  refine ⟨h.1, ?_⟩
  rcases h.2 with h1 | ⟨g, cap, cur, rfl, hb, hg, rest⟩
  · exact .inl h1
  · exact .inr ⟨g, cap, cur, rfl, hb, (hk g rfl).trans hg, rest⟩
def CellK (F : Nat) : Kin PC Value where
  T := 46
  sz := 3
  pos := by decide
  cells c q := [.int .i64 c.ty, .bool c.fr, q]
  len _ _ := rfl
  blk := Value.ownBlock
  sub w c q := c.to.length = F ∧ w.ownsRow 0 3 1 q F (ints c.to) ∧ q ≠ .slice none 0 0
  has w c q m h hm := ownsRow_lt h.2.1 hm
  keep w w' c q h _ hm := ⟨h.1, ownsRow_keep h.2.1 hm, h.2.2⟩
theorem ownsRow_new {w : World} {g F : Nat} {c : PC} (h : Bk w g 3 (ints c.to).toArray) (hl : c.to.length = F) (hF : F ≤ maxLen) : w.ownsRow 0 3 1 (.slice (some ⟨g, 0, none⟩) F F) F (ints c.to) := by
  have hs : (ints c.to).length = F := by simp [ints, hl]
  exact ⟨by rw [hs, Nat.mul_one], .inr ⟨g, F, _, rfl, Nat.zero_le _, h, Nat.le_refl _, hF, by simp [hs], by rw [Nat.mul_one]; simp; rw [← hs]; exact List.take_length⟩⟩
theorem z46 : ∃ i : TypeInfo, Try.prog.info? 46 = some i ∧ i.zero = some (.agg #[.int .i64 0, .bool false, .slice none 0 0]) ∧ i.size = 3 ∧ i.bytes = 40 := by
  have h : (Try.prog.info? 46).map (fun i => (i.zero, i.size, i.bytes)) = some (some (.agg #[.int .i64 0, .bool false, .slice none 0 0]), 3, 40) := by kernel_rfl
  obtain ⟨i, hi, hz⟩ := Option.map_eq_some_iff.1 h
  simp only [Prod.mk.injEq] at hz
  exact ⟨i, hi, hz.1, hz.2.1, hz.2.2⟩
def Zc (n : Nat) : Array Value := madeCells (#[.int .i64 0, .bool false, .slice none 0 0] : Array Value) (n * 3)
theorem Zc_size (n : Nat) : (Zc n).size = n * 3 := size_madeCells _ _
theorem make23 (n : Nat) (w : World) (h : n ≤ 2000000) : (Instr.makeSlice 23 (.int .i64 n) (.int .i64 n)).run Try.prog w = .ok (.slice (some ⟨w.heap.size, 0, none⟩) n n) (w.alloc (.cells (Zc n) 46)) := by
  obtain ⟨i, hi, hz, hs, hb⟩ := z46
  have hr := run_make (P := Try.prog) w 23 46 i _ Try.underlying23 hi hz .i64 .i64 n n (by omega) (Int.le_refl _) (by rw [hb]; omega) (by omega)
  simp only [Int.toNat_natCast, hs] at hr
  exact hr
theorem cells_start (F : Nat) (w : World) (n : Nat) (h : n ≤ 2000000) : (CellK F).At (w.alloc (.cells (Zc n) 46)) (fun k => w.heap.size ≤ k) w.heap.size n (Zc n) (fun _ => .nilIface) [] where
  row := (MapKept.heap_alloc w _).1
  mine := Nat.le_refl _
  room := Nat.zero_le _
  most := by unfold maxLen; omega
  size := Zc_size n
  cell i x hi := by simp at hi
  sub i x hi := by simp at hi
  own i m hi := by simp at hi
  apart i j m _ hj := by simp at hj
end Go.Proofs.Ytocgallcmgnmgaa
