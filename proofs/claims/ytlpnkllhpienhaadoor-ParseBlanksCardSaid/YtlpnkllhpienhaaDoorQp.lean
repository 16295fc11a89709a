/-
  DERIVED. Laws: an item goes to the end of a row of one's own.
-/
import Derived.Test.YtlpnkllhpienhaaDoorQd
import Derived.Test.YtlpnkllhpienhaaDoorPm
import Derived.Great.BuildSlice
namespace Go.Proofs.YtlpnkllhpienhaaDoor
open Go.RowKit Go.Sort

/-- A slice literal of one struct, its cells not looked at. -/
theorem wpList_one {P : Program} {ops : Array Oper} {rest : List Oper} {o : Oper} {a : Act} {w : World} {Q : Exit → Act → World → Prop} (hg : o.guard = none) (t e : TypeId) (x : Operand) (ho : o.op = .buildSlice t 1 #[(0, x)])
    (cs : Array Value) (hx : a.eval x = .agg cs) (hu : P.underlying t = some (.slice e)) (ie : TypeInfo) (z : Value) (n : Nat) (hie : P.info? e = some ie) (hz : ie.zero = some z) (hn : ie.size = n) (h0 : 0 < n) (h24 : n ≤ 16777216) (hcs : n = cs.size)
    (h : wpList P ops Q rest (a.put o.dst (.slice (some ⟨w.heap.size, 0, none⟩) 1 1)) (w.alloc (.cells cs e))) : wpList P ops Q (o :: rest) a w := by
  subst hn
  refine wpList_buildSlice hg t e 1 #[(0, x)] ho cs ie z hu hie hz (by omega) (by omega) ?_ h
  have hf := Great.fill_whole h0 [Value.agg cs] ((Array.range (1 * ie.size)).map (z.cells[· % z.cells.size]!)) (by intro v hv; rw [List.mem_singleton.1 hv]; exact hcs.symm) (by simp)
  simp only [List.zipIdx_cons, List.zipIdx_nil, List.map_cons, List.map_nil] at hf
  simp only [List.map_toArray, List.map_cons, List.map_nil, hx]
  rw [hf]
  simp [Value.cells]
theorem own_one {w : World} {B g : Nat} {e : TypeId} {cs : List Value} (hk : Bk w g e cs.toArray) (hB : B ≤ g) {n : Nat} (hn : cs.length = n) : w.ownsRow B e n (.slice (some ⟨g, 0, none⟩) 1 1) 1 cs :=
  ⟨by rw [hn, Nat.one_mul], .inr ⟨g, 1, cs.toArray, rfl, hB, hk, Nat.le_refl _, by decide, by simp [hn], by rw [Nat.one_mul, ← hn]; simp⟩⟩
theorem one_of {cs : List Value} (h : cs.toArray.all (·.oneCell') = true) : ∀ u ∈ cs, u.oneCell' = true := fun u hu => (Array.all_eq_true_iff_forall_mem.1 h) u (by simpa using hu)

/-- What a list read from parentheses, or a list of parts, is handed back as. -/
def Kd.Lst {α : Type} (K : Kd α) (B : Nat) (w : World) (v : Value) (xs : List α) : Prop := ∃ s : Sl α, v = .slice s.p s.l.length s.cap ∧ s.l.map K.er = xs ∧ K.Ly (fresh B w) s.p s.l
namespace Kd
variable {α : Type} (K : Kd α)
/-- The first item of a row of one's own. -/
theorem Gr.one {B g : Nat} {w : World} {y : α} (hk : Bk w g K.T (K.cells y).toArray) (hB : B ≤ g) (hR : K.R (rest B (some g) w) y) : K.Gr B [K.er y] (.slice (some ⟨g, 0, none⟩) 1 1) w :=
  ⟨[y], rfl, by rw [List.flatMap_singleton]; exact own_one hk hB (K.len y), by intro z hz; rw [List.mem_singleton.1 hz]; exact hR⟩
/-- What is known of a kind of items' type. -/
structure Inf (P : Program) (t : TypeId) (i : TypeInfo) (z : Value) : Prop where
  und : P.underlying t = some (.slice K.T)
  info : P.info? K.T = some i
  zero : i.zero = some z
  size : i.size = K.size
  bytes : i.bytes = K.bytes
  cells : z.cells.size = K.size
  pos : 0 < K.size
theorem wp_push {P : Program} {o : Oper} {a : Act} {w : World} {R : Act → World → Prop} {Q : Exit → Act → World → Prop} (t : TypeId) (i : TypeInfo) (z : Value) (hI : K.Inf P t i z) (s x : Operand)
    (ho : o.op = .call { callee := .builtin .append, args := #[s, x], argTypes := #[t, t] })
    (B : Nat) (xs : List α) (v : Value) (hs : a.eval s = v) (hG : K.Gr B xs v w) (hB : B ≤ w.heap.size) (y : α) (hx : a.eval x = .slice (some ⟨w.heap.size, 0, none⟩) 1 1)
    (hR : K.R (rest B v.ownBlock w) y) (h63 : xs.length + 1 ≤ maxLen) (hb : (xs.length + 1) * K.bytes ≤ 140737488355328)
    (h : ∀ v' w', K.Gr B (xs ++ [K.er y]) v' w' → (∃ g cap, v' = .slice (some ⟨g, 0, none⟩) (xs.length + 1) cap) → w.grownBy w' v.ownBlock → (∀ q, v.ownBlock = some q → B ≤ q) → R (a.put o.dst v') w') : o.wp P a (w.alloc (.cells (K.cells y).toArray K.T)) R Q := by
  obtain ⟨ys, h1, h2, h3⟩ := hG
  have hm : Below w.heap.size w (w.alloc (.cells (K.cells y).toArray K.T)) := (Below.refl _ _).alloc (Nat.le_refl _) _
  refine wp_append_lies _ s x t ho B K.T i z K.size K.bytes hI.und hI.info hI.zero hI.size hI.bytes hI.cells hI.pos v xs.length _ hs (h2.alloc _) ⟨w.heap.size, 0, none⟩ 1 1 (K.cells y) hx (by rw [K.len, Nat.one_mul]) ?_ (one_of (K.one y)) (by decide) h63 hb (Nat.le_trans hB hm.size) _ rfl ?_
  · have := World.news_of_block (heap_alloc_new w (.cells (K.cells y).toArray K.T))
    simpa using this
  · intro g cap w' ho2 hg2 hat hlt
    have hg := below_grown hm hg2
    refine h _ w' (Kd.add K h1 (fun q hq => K.ext q (rest_below hm) (h3 q hq)) hg2 hat ho2 (K.ext y (rest_below hm) hR)) ⟨g, cap, rfl⟩ hg (fun q hq => (h2.lt q hq).1)
theorem wpList_push {P : Program} {ops : Array Oper} {rest : List Oper} {o : Oper} {a : Act} {w : World} {Q : Exit → Act → World → Prop} (hgd : o.guard = none) (t : TypeId) (i : TypeInfo) (z : Value) (hI : K.Inf P t i z) (s x : Operand)
    (ho : o.op = .call { callee := .builtin .append, args := #[s, x], argTypes := #[t, t] })
    (B : Nat) (xs : List α) (v : Value) (hs : a.eval s = v) (hG : K.Gr B xs v w) (hB : B ≤ w.heap.size) (y : α) (hx : a.eval x = .slice (some ⟨w.heap.size, 0, none⟩) 1 1)
    (hR : K.R (YtlpnkllhpienhaaDoor.rest B v.ownBlock w) y) (h63 : xs.length + 1 ≤ maxLen) (hb : (xs.length + 1) * K.bytes ≤ 140737488355328)
    (h : ∀ v' w', K.Gr B (xs ++ [K.er y]) v' w' → (∃ g cap, v' = .slice (some ⟨g, 0, none⟩) (xs.length + 1) cap) → w.grownBy w' v.ownBlock → (∀ q, v.ownBlock = some q → B ≤ q) → wpList P ops Q rest (a.put o.dst v') w') : wpList P ops Q (o :: rest) a (w.alloc (.cells (K.cells y).toArray K.T)) :=
  wpList_plain hgd fun _ hK => K.wp_push t i z hI s x ho B xs v hs hG hB y hx hR h63 hb fun v' w' a b c d => hK _ _ (h v' w' a b c d)
theorem step_push {P : Program} {ops : Array Oper} {o : Oper} {a : Act} {w : World} {R : Act → World → Prop} {Q : Exit → Act → World → Prop} {E : Prop} (hgd : o.guard = none) (t : TypeId) (i : TypeInfo) (z : Value) (hI : K.Inf P t i z) (s x : Operand)
    (ho : o.op = .call { callee := .builtin .append, args := #[s, x], argTypes := #[t, t] })
    (B : Nat) (xs : List α) (v : Value) (hs : a.eval s = v) (hG : K.Gr B xs v w) (hB : B ≤ w.heap.size) (y : α) (hx : a.eval x = .slice (some ⟨w.heap.size, 0, none⟩) 1 1)
    (hR : K.R (YtlpnkllhpienhaaDoor.rest B v.ownBlock w) y) (h63 : xs.length + 1 ≤ maxLen) (hb : (xs.length + 1) * K.bytes ≤ 140737488355328)
    (h : ∀ v' w', K.Gr B (xs ++ [K.er y]) v' w' → (∃ g cap, v' = .slice (some ⟨g, 0, none⟩) (xs.length + 1) cap) → w.grownBy w' v.ownBlock → (∀ q, v.ownBlock = some q → B ≤ q) → R (a.put o.dst v') w') :
    if Region.wanted o (yielded ops a.tmps) = true then Oper.wp P o a (w.alloc (.cells (K.cells y).toArray K.T)) R Q else E := by
  have hw : Region.wanted o (yielded ops a.tmps) = true := by simp [Region.wanted, hgd]
  rw [if_pos hw]
  exact K.wp_push t i z hI s x ho B xs v hs hG hB y hx hR h63 hb h
end Kd
theorem zinfoVl : (Tryd.prog.info? 47).map (fun i => (i.zero, i.size, i.bytes)) = some (some (.agg #[.int .i64 0, .int .i64 0, .string ByteArray.empty, .int .i64 0, .slice none 0 0, .string ByteArray.empty, .string ByteArray.empty, .int .i64 0, .int .i64 0, .string ByteArray.empty, .int .i64 0, .int .i64 0]), 12, 144) := by kernel_rfl
theorem infVl : ∃ i, kVl.Inf Tryd.prog 50 i (.agg #[.int .i64 0, .int .i64 0, .string ByteArray.empty, .int .i64 0, .slice none 0 0, .string ByteArray.empty, .string ByteArray.empty, .int .i64 0, .int .i64 0, .string ByteArray.empty, .int .i64 0, .int .i64 0]) := by
  obtain ⟨i, h1, h2, h3, h4⟩ := info_parts zinfoVl
  exact ⟨i, Tryd.underlying50, h1, h2, h3, h4, rfl, by decide⟩
theorem zinfoDc : (Tryd.prog.info? 85).map (fun i => (i.zero, i.size, i.bytes)) = some (some (.agg #[.string ByteArray.empty, .string ByteArray.empty, .int .i64 0]), 3, 40) := by kernel_rfl
theorem infDc : ∃ i, kDc.Inf Tryd.prog 30 i (.agg #[.string ByteArray.empty, .string ByteArray.empty, .int .i64 0]) := by
  obtain ⟨i, h1, h2, h3, h4⟩ := info_parts zinfoDc
  exact ⟨i, Tryd.underlying30, h1, h2, h3, h4, rfl, by decide⟩
theorem zinfoIt : (Tryd.prog.info? 52).map (fun i => (i.zero, i.size, i.bytes)) = some (some (.agg #[.int .i64 0, .int .i64 0, .string ByteArray.empty, .int .i64 0, .slice none 0 0, .int .i64 0, .int .i64 0, .string ByteArray.empty, .int .i64 0, .slice none 0 0, .string ByteArray.empty, .string ByteArray.empty, .int .i64 0, .int .i64 0, .string ByteArray.empty, .int .i64 0, .int .i64 0, .int .i64 0, .int .i64 0, .int .i64 0, .int .i64 0, .string ByteArray.empty, .int .i64 0, .slice none 0 0, .string ByteArray.empty, .string ByteArray.empty, .int .i64 0, .int .i64 0, .string ByteArray.empty, .int .i64 0, .int .i64 0, .int .i64 0, .int .i64 0, .string ByteArray.empty, .int .i64 0, .slice none 0 0, .string ByteArray.empty, .string ByteArray.empty, .int .i64 0, .int .i64 0, .string ByteArray.empty, .int .i64 0, .int .i64 0, .string ByteArray.empty, .slice none 0 0, .slice none 0 0, .slice none 0 0, .bool false]), 48, 608) := by kernel_rfl
theorem infIt : ∃ i, kIt.Inf Tryd.prog 38 i (.agg #[.int .i64 0, .int .i64 0, .string ByteArray.empty, .int .i64 0, .slice none 0 0, .int .i64 0, .int .i64 0, .string ByteArray.empty, .int .i64 0, .slice none 0 0, .string ByteArray.empty, .string ByteArray.empty, .int .i64 0, .int .i64 0, .string ByteArray.empty, .int .i64 0, .int .i64 0, .int .i64 0, .int .i64 0, .int .i64 0, .int .i64 0, .string ByteArray.empty, .int .i64 0, .slice none 0 0, .string ByteArray.empty, .string ByteArray.empty, .int .i64 0, .int .i64 0, .string ByteArray.empty, .int .i64 0, .int .i64 0, .int .i64 0, .int .i64 0, .string ByteArray.empty, .int .i64 0, .slice none 0 0, .string ByteArray.empty, .string ByteArray.empty, .int .i64 0, .int .i64 0, .string ByteArray.empty, .int .i64 0, .int .i64 0, .string ByteArray.empty, .slice none 0 0, .slice none 0 0, .slice none 0 0, .bool false]) := by
  obtain ⟨i, h1, h2, h3, h4⟩ := info_parts zinfoIt
  exact ⟨i, Tryd.underlying38, h1, h2, h3, h4, rfl, by decide⟩
theorem zinfoSr : (Tryd.prog.info? 61).map (fun i => (i.zero, i.size, i.bytes)) = some (some (.agg #[.string ByteArray.empty, .int .i64 0, .slice none 0 0]), 3, 48) := by kernel_rfl
theorem infSr : ∃ i, kSr.Inf Tryd.prog 29 i (.agg #[.string ByteArray.empty, .int .i64 0, .slice none 0 0]) := by
  obtain ⟨i, h1, h2, h3, h4⟩ := info_parts zinfoSr
  exact ⟨i, Tryd.underlying29, h1, h2, h3, h4, rfl, by decide⟩
theorem zinfoPc : (Tryd.prog.info? 63).map (fun i => (i.zero, i.size, i.bytes)) = some (some (.agg #[.string ByteArray.empty, .int .i64 0, .int .i64 0, .slice none 0 0, .slice none 0 0, .slice none 0 0]), 6, 104) := by kernel_rfl
theorem infPc : ∃ i, kPc.Inf Tryd.prog 31 i (.agg #[.string ByteArray.empty, .int .i64 0, .int .i64 0, .slice none 0 0, .slice none 0 0, .slice none 0 0]) := by
  obtain ⟨i, h1, h2, h3, h4⟩ := info_parts zinfoPc
  exact ⟨i, Tryd.underlying31, h1, h2, h3, h4, rfl, by decide⟩
end Go.Proofs.YtlpnkllhpienhaaDoor
