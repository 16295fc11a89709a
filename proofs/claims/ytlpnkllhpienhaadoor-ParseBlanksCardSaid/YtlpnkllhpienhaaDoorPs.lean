/-
  DERIVED. The parser's own memory: its signs, the sign that comes next, the braces that are open, the statements that have begun; what its calls hand back.
-/
import Derived.Test.YtlpnkllhpienhaaDoorMem
import Derived.Test.YtlpnkllhpienhaaDoorTx
import Derived.RegionTactic
namespace Go.Proofs.YtlpnkllhpienhaaDoor
open Go.RowKit Go.Sort

/-- The signs of a text that was read to its end: just the last one is the End, which has no text. -/
structure Good (l : List Tx.Sg) : Prop where
  fin : ∀ k x, l[k]? = some x → (x.kind = 0 ↔ k + 1 = l.length)
  none : ∀ k x, l[k]? = some x → k + 1 = l.length → x.text = ByteArray.empty
  len : l.length ≤ 6000000
/-- The parser in block pb, its signs in block sb. -/
structure PS (w : World) (pb sb cap : Nat) (l : List Tx.Sg) (i : Nat) (o b : Int) : Prop where
  blk : Bk w pb 78 #[.slice (some ⟨sb, 0, Option.none⟩) l.length cap, .int .i64 i, .int .i64 o, .int .i64 b]
  row : ∀ k x, l[k]? = some x → w.rangeAt sb (k * 4) [.int .i64 x.kind, .int .i64 x.pos, .string x.text, .int .i64 x.num]
  ne : sb ≠ pb
  lt : i < l.length
theorem PS.below {w w' : World} {pb sb cap : Nat} {l : List Tx.Sg} {i : Nat} {o b : Int} (h : PS w pb sb cap l i o b) (hb : Below w.heap.size w w') : PS w' pb sb cap l i o b :=
  ⟨h.blk.below hb (Array.getElem?_eq_some_iff.1 h.blk).1, fun k x hx => rangeAt_below (h.row k x hx) hb, h.ne, h.lt⟩
theorem PS.pb_lt {w : World} {pb sb cap : Nat} {l : List Tx.Sg} {i : Nat} {o b : Int} (h : PS w pb sb cap l i o b) : pb < w.heap.size := (Array.getElem?_eq_some_iff.1 h.blk).1
/-- The sign that comes next. -/
theorem PS.sign {w : World} {pb sb cap : Nat} {l : List Tx.Sg} {i : Nat} {o b : Int} (h : PS w pb sb cap l i o b) {x : Tx.Sg} (hx : l[i]? = some x) :
    w.cell? ⟨sb, i * 4, none⟩ = some (.int .i64 x.kind) ∧ w.cell? ⟨sb, i * 4 + 1, none⟩ = some (.int .i64 x.pos) ∧ w.cell? ⟨sb, i * 4 + 2, none⟩ = some (.string x.text) ∧ w.cell? ⟨sb, i * 4 + 3, none⟩ = some (.int .i64 x.num) := by
  have hr := h.row i x hx
  exact ⟨by have := cell_at hr 0 _ rfl; rwa [Nat.add_zero] at this, cell_at hr 1 _ rfl, cell_at hr 2 _ rfl, cell_at hr 3 _ rfl⟩

set_option maxHeartbeats 1600000 in
set_option maxRecDepth 100000 in
theorem ahead_any (x : Tx.Sg) {pb sb cap : Nat} {l : List Tx.Sg} {i : Nat} {o b : Int} (w : World) (h : PS w pb sb cap l i o b) (hg : Good l) (hx : l[i]? = some x) :
    Calls Tryd.prog 23 #[.pointer (some ⟨pb, 0, none⟩)] w fun e w' => e = .returned (.agg #[.int .i64 x.kind, .int .i64 x.pos, .string x.text, .int .i64 x.num]) ∧ Below w.heap.size w w' := by
  have hl : l.length ≤ 6000000 := hg.len
  have hi : i < l.length := h.lt
  obtain ⟨wA, hwA⟩ : ∃ wA : World, wA = w.alloc (.cells #[.int .i64 0, .int .i64 0, .string ByteArray.empty, .int .i64 0] 79) := ⟨_, rfl⟩
  have hn : Below w.heap.size w wA := by rw [hwA]; exact (Below.refl _ _).alloc (Nat.le_refl _) _
  have hk : Bk wA w.heap.size 79 #[.int .i64 0, .int .i64 0, .string ByteArray.empty, .int .i64 0] := by rw [hwA]; exact heap_alloc_new _ _
  have hb := (h.below hn).blk
  have p0 : wA.cell? ⟨pb, 0, none⟩ = some (.slice (some ⟨sb, 0, none⟩) l.length cap) := hb.cell 0
  have p1 : wA.cell? ⟨pb, 1, none⟩ = some (.int .i64 i) := hb.cell 1
  obtain ⟨c0, c1, c2, c3⟩ := (h.below hn).sign hx
  have z0 : wA.cell? ⟨w.heap.size, 0, none⟩ = some (.int .i64 0) := hk.cell 0
  have z1 : wA.cell? ⟨w.heap.size, 1, none⟩ = some (.int .i64 0) := hk.cell 1
  have z2 : wA.cell? ⟨w.heap.size, 2, none⟩ = some (.string ByteArray.empty) := hk.cell 2
  have z3 : wA.cell? ⟨w.heap.size, 3, none⟩ = some (.int .i64 0) := hk.cell 3
  have f0 := hk.frozen 0
  have f1 := hk.frozen 1
  have f2 := hk.frozen 2
  have f3 := hk.frozen 3
  have hi0 : (0 : Int) ≤ (i : Int) := Int.natCast_nonneg _
  have hi1 : (i : Int) < (l.length : Int) := by omega
  have HN := Lib.hid hn
  have HK := Lib.hid hk
  clear h hx hg hn hb hk
  go_enter Tryd.func23, Tryd.ntmps23
  go_wp2_with fail
  change Code.wp _ _ _ _ (w.alloc (.cells #[.int .i64 0, .int .i64 0, .string ByteArray.empty, .int .i64 0] 79))
  rw [← hwA]
  clear hwA
  go_region
  go_wp2_with fail
  have hB : Bk ((((wA.setCell ⟨w.heap.size, 0, none⟩ (.int .i64 x.kind)).setCell ⟨w.heap.size, 1, none⟩ (.int .i64 x.pos)).setCell ⟨w.heap.size, 2, none⟩ (.string x.text)).setCell ⟨w.heap.size, 3, none⟩ (.int .i64 x.num)).drew w.heap.size 79 #[.int .i64 x.kind, .int .i64 x.pos, .string x.text, .int .i64 x.num] := ((((HK.out).set_ 0 _).set_ 1 _).set_ 2 _).set_ 3 _
  have hW := below_drew (((((HN.out).setCell (p := ⟨w.heap.size, 0, none⟩) (Nat.le_refl _) (.int .i64 x.kind)).setCell (p := ⟨w.heap.size, 1, none⟩) (Nat.le_refl _) (.int .i64 x.pos)).setCell (p := ⟨w.heap.size, 2, none⟩) (Nat.le_refl _) (.string x.text)).setCell (p := ⟨w.heap.size, 3, none⟩) (Nat.le_refl _) (.int .i64 x.num))
  generalize ((((wA.setCell ⟨w.heap.size, 0, none⟩ (.int .i64 x.kind)).setCell ⟨w.heap.size, 1, none⟩ (.int .i64 x.pos)).setCell ⟨w.heap.size, 2, none⟩ (.string x.text)).setCell ⟨w.heap.size, 3, none⟩ (.int .i64 x.num)).drew = w4 at hB hW ⊢
  have e0 := hB.cell 0
  have e1 := hB.cell 1
  have e2 := hB.cell 2
  have e3 := hB.cell 3
  exact bodyPost_ret (v := .agg #[.int .i64 x.kind, .int .i64 x.pos, .string x.text, .int .i64 x.num]) (by simp [results, Tryd.results23, go_sem, e0, e1, e2, e3]) rfl ⟨rfl, hW⟩

theorem field79_0 (k : Int) (b c d : Value) (w : World) : (Instr.field 79 (.agg #[.int .i64 k, b, c, d]) 0).run Tryd.prog w = .ok (.int .i64 k) w := by kernel_rfl
theorem field79_1 (k : Int) (a c d : Value) (w : World) : (Instr.field 79 (.agg #[a, .int .i64 k, c, d]) 1).run Tryd.prog w = .ok (.int .i64 k) w := by kernel_rfl
theorem field79_2 (s : ByteArray) (a b d : Value) (w : World) : (Instr.field 79 (.agg #[a, b, .string s, d]) 2).run Tryd.prog w = .ok (.string s) w := by kernel_rfl
theorem field79_3 (k : Int) (a b c : Value) (w : World) : (Instr.field 79 (.agg #[a, b, c, .int .i64 k]) 3).run Tryd.prog w = .ok (.int .i64 k) w := by kernel_rfl
attribute [local go_sem] field79_0 field79_1 field79_2 field79_3

set_option maxHeartbeats 800000 in
set_option maxRecDepth 100000 in
theorem stands_any (x : Tx.Sg) (s : ByteArray) {pb sb cap : Nat} {l : List Tx.Sg} {i : Nat} {o b : Int} (w : World) (h : PS w pb sb cap l i o b) (hg : Good l) (hx : l[i]? = some x) :
    Calls Tryd.prog 56 #[.pointer (some ⟨pb, 0, none⟩), .string s] w fun e w' => e = .returned (.bool (x.text.toList == s.toList)) ∧ Below w.heap.size w w' := by
  have HA := Lib.hid (ahead_any x w h hg hx)
  clear h hg hx
  go_enter Tryd.func56, Tryd.ntmps56
  go_wp2_with fail
  refine (HA.out).mono ?_; rintro en w1 ⟨rfl, hb⟩
  have HB := Lib.hid hb
  clear hb
  go_wp2_with fail
  go_ret
  exact ⟨rfl, HB.out⟩

end Go.Proofs.YtlpnkllhpienhaaDoor
