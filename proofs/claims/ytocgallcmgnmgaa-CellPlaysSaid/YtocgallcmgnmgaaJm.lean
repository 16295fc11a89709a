/-
  DERIVED. The program's Load.
-/
import Derived.Test.YtocgallcmgnmgaaJk
namespace Go.Proofs.Ytocgallcmgnmgaa
open Go.RowKit Go.Maps

/-- The program's Load under way: its row has room for all cells; these are loaded. -/
structure LdI (F : Nat) (w wr : World) (b g n : Nat) (R : Nat → Prop) (xs : List PC) : Prop where
  top : Bk wr b 50 #[.bool true, .int .i64 F, .slice (some ⟨g, 0, none⟩) n n]
  out : ¬ R b
  row : ∃ cur fm, (HeldK F).At wr R g n cur fm xs
  lt : ∀ k, R k → k < wr.heap.size
  new : ∀ k, R k → w.heap.size ≤ k
  base : w.heap.size ≤ b
  below : Below w.heap.size w wr
theorem LdI.go {F : Nat} {w wr wz : World} {b g n : Nat} {R : Nat → Prop} {xs : List PC} (h : LdI F w wr b g n R xs) (hb : Below wr.heap.size wr wz) : LdI F w wz b g n R xs := by
  obtain ⟨cur, fm, ha⟩ := h.row
  exact ⟨h.top.below hb h.top.lt, h.out, ⟨cur, fm, ha.gr (Gr.of_below (S := fun _ => False) hb) (fun _ _ h => h)⟩, fun k hk => Nat.lt_of_lt_of_le (h.lt k hk) hb.size, h.new, h.base, h.below.trans (hb.mono h.below.size)⟩
/-- One cell more is there, without places. -/
theorem LdI.snoc {F : Nat} {w wr wz : World} {b g n : Nat} {R : Nat → Prop} {xs : List PC} (h : LdI F w wr b g n R xs) (hx : xs.length < n) (m : Nat) (r : PC) {cur cur' : Array Value} (hc : Bk wr g 59 cur) (q1 : Bk wz g 59 cur') (q2 : cur'.size = cur.size)
    (q3 : ∀ j, j < 11 → cur'[xs.length * 11 + j]? = ([.int .i64 r.ty, .bool r.fr, .int .i64 0, .int .i64 0, .int .i64 0, .int .i64 0, .int .i64 0, .int .i64 0, .int .i64 0, .int .i64 0, .map none] : List Value)[j]?) (q4 : ∀ j, (j < xs.length * 11 ∨ xs.length * 11 + 11 ≤ j) → cur'[j]? = cur[j]?) (q5 : wr.grownBy wz (some g)) :
    LdI F w wz b g n R (xs ++ [partC F m 0 r]) := by
  obtain ⟨cur0, fm, ha⟩ := h.row
  obtain rfl : cur0 = cur := by
    have h1 : Bk wr g 59 cur0 := ha.row
    have := h1.symm.trans hc
    injection this with this; injection this
  have hgb : g ≠ b := fun e => h.out (e ▸ ha.mine)
  have hz : hcells (partC F m 0 r) none = [.int .i64 r.ty, .bool r.fr, .int .i64 0, .int .i64 0, .int .i64 0, .int .i64 0, .int .i64 0, .int .i64 0, .int .i64 0, .int .i64 0, .map none] := by
    rw [part_zero]; unfold hcells; simp only [at_zeros (c := (⟨r.ty, r.fr, zeros F⟩ : PC)) (F := F) rfl]
  refine ⟨(q5.block b h.top.lt (by intro e; injection e with e; exact hgb e.symm)).trans h.top, h.out, ⟨cur', _, ha.snoc (b' := none) (S := fun k => some k = some g) (Gr.of_grown q5) q1 q2 hx (fun j hj => by
    have := q3 j hj
    rw [← hz] at this; exact this) (fun j hj => q4 j (.inl hj)) ⟨part_len F m 0 r, fun k => ?_, fun k _ => ?_⟩ (fun k _ hk => by injection hk) (fun m hm => by cases hm) (fun _ h => h)⟩, fun k hk => Nat.lt_of_lt_of_le (h.lt k hk) q5.size, h.new, h.base, h.below.grown q5 h.below.size (fun j hj => by injection hj with hj; subst hj; exact h.new _ ha.mine)⟩
  · rw [part_zero]; show okI ((zeros F).getD k 0); rw [zeros_at]; rfl
  · rw [part_zero]; exact zeros_at F k
/-- A place has been made to lead. -/
theorem LdI.lead {F : Nat} {w wr wz : World} {b g n : Nat} {R : Nat → Prop} {xs : List PC} {m j : Nat} {r : PC} {e : Ending} (h : LdI F w wr b g n R (xs ++ [partC F m j r])) (hj : j < F) (t : Int) (ht : (if r.fr = true then 0 else okTo m (r.at j)) = t)
    (hp : RowPost F wr R g n ((xs ++ [partC F m j r]).set xs.length (putTo (partC F m j r) j t)) e wz) : ∃ R', LdI F w wz b g n R' (xs ++ [partC F m (j + 1) r]) := by
  obtain ⟨_, R', cur', fm', ha, hst⟩ := hp
  have hset : (xs ++ [partC F m j r]).set xs.length (putTo (partC F m j r) j t) = xs ++ [partC F m (j + 1) r] := by
    rw [List.set_append_right _ _ (Nat.le_refl _), Nat.sub_self, ← ht, part_put F m j r hj]; rfl
  rw [hset] at ha
  refine ⟨R', hst.gr.bk h.top h.out, fun hb => ?_, ⟨cur', fm', ha⟩, hst.lt, fun k hk => ?_, h.base, h.below.trans (hst.gr.below h.below.size h.new)⟩
  · rcases hst.new b hb with h1 | h1
    · exact h.out h1
    · have := h.top.lt; omega
  · rcases hst.new k hk with h1 | h1
    · exact h.new k h1
    · have := h.below.size; omega
theorem LdI.skip {F : Nat} {w wr : World} {b g n : Nat} {R : Nat → Prop} {xs : List PC} {m j : Nat} {r : PC} (h : LdI F w wr b g n R (xs ++ [partC F m j r])) (hj : j < F) (hz : (if r.fr = true then 0 else okTo m (r.at j)) = 0) : LdI F w wr b g n R (xs ++ [partC F m (j + 1) r]) := by
  rw [part_same F m j r hj hz]; exact h
/-- Places behind the end are nought. -/
theorem part_end (F m j : Nat) (r : PC) (h : r.to.length ≤ j) : partC F m j r = loadC F m r := by
  rw [← part_full]
  refine pc_ext rfl rfl (by rw [part_len, part_len]) fun k hk => ?_
  have hk : k < F := by rw [part_len] at hk; exact hk
  rw [part_at F m j k r hk, part_at F m F k r hk, if_pos (show k < F from hk)]
  by_cases hkj : k < j
  · rw [if_pos hkj]
  · rw [if_neg hkj, at_over r k (by omega)]
    split <;> rfl
def LoadP (F : Nat) (w : World) (cs : List PC) (e : Ending) (w' : World) : Prop :=
  ∃ b R v, e = .returned (.pointer (some ⟨b, 0, none⟩)) ∧ HIs w' b R F cs v ∧ (∀ k, R k → w.heap.size ≤ k) ∧ w.heap.size ≤ b ∧ Below w.heap.size w w'
theorem LdI.done {F : Nat} {w wr : World} {b g n : Nat} {R : Nat → Prop} {xs : List PC} (h : LdI F w wr b g n R xs) (hn : xs.length = n) : LoadP F w xs (.returned (.pointer (some ⟨b, 0, none⟩))) wr := by
  obtain ⟨cur, fm, ha⟩ := h.row
  subst hn
  exact ⟨b, R, _, rfl, ⟨h.top, h.out, ⟨h.lt, .inr ⟨g, _, cur, fm, rfl, ha⟩⟩⟩, h.new, h.base, h.below⟩
def Hc (n : Nat) : Array Value := madeCells (#[.int .i64 0, .bool false, .int .i64 0, .int .i64 0, .int .i64 0, .int .i64 0, .int .i64 0, .int .i64 0, .int .i64 0, .int .i64 0, .map none] : Array Value) (n * 11)
theorem make48 (n : Nat) (w : World) (h : n ≤ 2000000) : (Instr.makeSlice 48 (.int .i64 n) (.int .i64 n)).run Try.prog w = .ok (.slice (some ⟨w.heap.size, 0, none⟩) n n) (w.alloc (.cells (Hc n) 59)) := by
  obtain ⟨i, hi, hz, hs, hb⟩ := z59
  have hr := run_make (P := Try.prog) w 48 59 i _ Try.underlying48 hi hz .i64 .i64 n n (by omega) (Int.le_refl _) (by rw [hb]; omega) (by omega)
  simp only [Int.toNat_natCast, hs] at hr
  exact hr
theorem ld_start (F : Nat) (w w1 : World) (b n : Nat) (h : n ≤ 2000000) (hw : Below w.heap.size w w1) (hb : w.heap.size ≤ b) (ht : Bk w1 b 50 #[.bool true, .int .i64 F, .slice none 0 0]) :
    LdI F w ((w1.alloc (.cells (Hc n) 59)).setCell ⟨b, 2, none⟩ (.slice (some ⟨w1.heap.size, 0, none⟩) n n)) b w1.heap.size n (fun k => k = w1.heap.size) [] := by
  have hbl := ht.lt
  have h1 : Bk (w1.alloc (.cells (Hc n) 59)) w1.heap.size 59 (Hc n) := (MapKept.heap_alloc w1 _).1
  have h2 : Bk ((w1.alloc (.cells (Hc n) 59)).setCell ⟨b, 2, none⟩ (.slice (some ⟨w1.heap.size, 0, none⟩) n n)) w1.heap.size 59 (Hc n) := h1.far (by show w1.heap.size ≠ b; omega) _
  refine ⟨(ht.below (alloc_below _ _) hbl).set_ 2 _, by intro e; omega, ⟨Hc n, fun _ => none, ⟨h2, rfl, Nat.zero_le _, by unfold maxLen; omega, size_madeCells _ _, fun i x hi => by simp at hi, fun i x hi => by simp at hi, fun i m hi => by simp at hi, fun i j m _ hj => by simp at hj⟩⟩, fun k hk => by rw [hk]; exact h2.lt, fun k hk => by have := hw.size; omega, hb, ?_⟩
  exact (hw.trans ((alloc_below _ _).mono hw.size)).setCell hb _
end Go.Proofs.Ytocgallcmgnmgaa
