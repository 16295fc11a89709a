/-
  DERIVED. The page's example: its graph may be, part by part.
-/
import Derived.Test.YtnkimfbdcghgpaaDoorXz
import Derived.Test.YtnkimfbdcghgpaaDoorEc
import Derived.Test.YtnkimfbdcghgpaaDoorCd
import Derived.Test.YtnkimfbdcghgpaaDoorBd
namespace Go.Proofs.YtnkimfbdcghgpaaDoor
open Go.RowKit Go.Sort

def ac0 : Ac.Acn := { kind := 0, x := 0, y := 0, f := 0, t := 0, pl := 0, op := 0, l := { v := 0, n := 0 }, r := { v := 0, n := 0 }, sense := false }
def ed0 : Ed := ⟨0, 1, ac0⟩
/-- The page's graph. -/
def g0 (p : Option Addr) : Gh := { pts := 2, start := 0, end_ := 1, endAt := 0, ep := p, es := [ed0], ec := 1, hp := none, hn := 0, hc := 0, vars := 0, ints := 0, strs := 0, fp := none, fn := 0, fc := 0 }
theorem lies_any {w : World} {x y : Nat} {p : Option Addr} {e : Ed} (h : ELies w x p [e]) (hy : w.heap.size ≤ y) : ELies w y p [e] := by
  rcases h with h | ⟨b, o, hp, hb, hr⟩
  · cases h
  · refine .inr ⟨b, o, hp, ?_, hr⟩
    have h1 := hr 0 e rfl 0 (.int .i64 e.f) rfl
    have := World.block_lt_of_cell? w _ h1
    simp only at this
    omega
theorem lies_below {w w' : World} {x : Nat} {p : Option Addr} {l : List Ed} (h : ELies w x p l) (hb : Below w.heap.size w w') : ELies w' x p l := h.gr (Gr.of_below (S := fun _ => False) hb) (fun _ _ _ _ h => h)
set_option maxHeartbeats 1600000 in
set_option maxRecDepth 100000 in
theorem points_g0 (p : Option Addr) (w : World) : Calls Tryd.prog 16 #[.agg (g0 p).cs] w fun e w' => e = .returned (.bool true) ∧ Below w.heap.size w w' := by
  have HK1 : Hid (Bk (w.alloc (.cells (g0 p).cs 26)) w.heap.size 26 (g0 p).cs) := Lib.hid (heap_alloc_new _ _)
  have HB1 : Hid (Below w.heap.size w (w.alloc (.cells (g0 p).cs 26))) := Lib.hid ((Below.refl _ _).alloc (Nat.le_refl _) _)
  have c0 : (w.alloc (.cells (g0 p).cs 26)).cell? ⟨w.heap.size, 0, none⟩ = some (.int .i64 2) := HK1.out.cell 0
  have c1 : (w.alloc (.cells (g0 p).cs 26)).cell? ⟨w.heap.size, 1, none⟩ = some (.int .i64 0) := HK1.out.cell 1
  have c2 : (w.alloc (.cells (g0 p).cs 26)).cell? ⟨w.heap.size, 2, none⟩ = some (.int .i64 1) := HK1.out.cell 2
  have c3 : (w.alloc (.cells (g0 p).cs 26)).cell? ⟨w.heap.size, 3, none⟩ = some (.int .i64 0) := HK1.out.cell 3
  go_enter Tryd.func16, Tryd.ntmps16
  go_wp2_with (first | ((with_reducible show wpList _ _ _ (Oper.mk _ (Op.load 26 _) _ _ _ _ :: _) _ _); refine wpList_load_bk rfl 26 _ rfl w.heap.size 26 (g0 p).cs rfl _ HK1.out Tryd.underlying26 rfl size26 ?_) | ((with_reducible show wpList _ _ _ (Oper.mk _ (Op.load 26 _) _ _ _ _ :: _) _ _); refine wpList_load_bk_g 26 _ (by rfl) rfl w.heap.size 26 (g0 p).cs rfl _ HK1.out Tryd.underlying26 rfl size26 ?_) | fail)
  refine (within_yes 2 1 2000 (by decide) (by decide) _).mono ?_
  rintro en w2 ⟨rfl, hb⟩
  have HK2 := Lib.hid (HK1.out.below hb HK1.out.lt)
  have HB2 : Hid (Below w.heap.size w w2) := Lib.hid (HB1.out.trans (hb.mono HB1.out.size))
  clear hb c0 c1 c2 c3
  have c0 : w2.cell? ⟨w.heap.size, 0, none⟩ = some (.int .i64 2) := HK2.out.cell 0
  have c1 : w2.cell? ⟨w.heap.size, 1, none⟩ = some (.int .i64 0) := HK2.out.cell 1
  have c2 : w2.cell? ⟨w.heap.size, 2, none⟩ = some (.int .i64 1) := HK2.out.cell 2
  have c3 : w2.cell? ⟨w.heap.size, 3, none⟩ = some (.int .i64 0) := HK2.out.cell 3
  go_wp2_with (first | ((with_reducible show wpList _ _ _ (Oper.mk _ (Op.load 26 _) _ _ _ _ :: _) _ _); refine wpList_load_bk rfl 26 _ rfl w.heap.size 26 (g0 p).cs rfl _ HK2.out Tryd.underlying26 rfl size26 ?_) | ((with_reducible show wpList _ _ _ (Oper.mk _ (Op.load 26 _) _ _ _ _ :: _) _ _); refine wpList_load_bk_g 26 _ (by rfl) rfl w.heap.size 26 (g0 p).cs rfl _ HK2.out Tryd.underlying26 rfl size26 ?_) | fail)
  refine (isPoint_any (g0 p) 0 _).mono ?_
  rintro en w3 ⟨rfl, hb⟩
  have HK3 := Lib.hid (HK2.out.below hb HK2.out.lt)
  have HB3 : Hid (Below w.heap.size w w3) := Lib.hid (HB2.out.trans (hb.mono HB2.out.size))
  clear hb c0 c1 c2 c3
  have c0 : w3.cell? ⟨w.heap.size, 0, none⟩ = some (.int .i64 2) := HK3.out.cell 0
  have c1 : w3.cell? ⟨w.heap.size, 1, none⟩ = some (.int .i64 0) := HK3.out.cell 1
  have c2 : w3.cell? ⟨w.heap.size, 2, none⟩ = some (.int .i64 1) := HK3.out.cell 2
  have c3 : w3.cell? ⟨w.heap.size, 3, none⟩ = some (.int .i64 0) := HK3.out.cell 3
  go_wp2_with (first | ((with_reducible show wpList _ _ _ (Oper.mk _ (Op.load 26 _) _ _ _ _ :: _) _ _); refine wpList_load_bk rfl 26 _ rfl w.heap.size 26 (g0 p).cs rfl _ HK3.out Tryd.underlying26 rfl size26 ?_) | ((with_reducible show wpList _ _ _ (Oper.mk _ (Op.load 26 _) _ _ _ _ :: _) _ _); refine wpList_load_bk_g 26 _ (by rfl) rfl w.heap.size 26 (g0 p).cs rfl _ HK3.out Tryd.underlying26 rfl size26 ?_) | fail)
  refine (isPoint_any (g0 p) 1 _).mono ?_
  rintro en w4 ⟨rfl, hb⟩
  have HK4 := Lib.hid (HK3.out.below hb HK3.out.lt)
  have HB4 : Hid (Below w.heap.size w w4) := Lib.hid (HB3.out.trans (hb.mono HB3.out.size))
  clear hb c0 c1 c2 c3
  have c0 : w4.cell? ⟨w.heap.size, 0, none⟩ = some (.int .i64 2) := HK4.out.cell 0
  have c1 : w4.cell? ⟨w.heap.size, 1, none⟩ = some (.int .i64 0) := HK4.out.cell 1
  have c2 : w4.cell? ⟨w.heap.size, 2, none⟩ = some (.int .i64 1) := HK4.out.cell 2
  have c3 : w4.cell? ⟨w.heap.size, 3, none⟩ = some (.int .i64 0) := HK4.out.cell 3
  go_wp2_with (first | ((with_reducible show wpList _ _ _ (Oper.mk _ (Op.load 26 _) _ _ _ _ :: _) _ _); refine wpList_load_bk rfl 26 _ rfl w.heap.size 26 (g0 p).cs rfl _ HK4.out Tryd.underlying26 rfl size26 ?_) | ((with_reducible show wpList _ _ _ (Oper.mk _ (Op.load 26 _) _ _ _ _ :: _) _ _); refine wpList_load_bk_g 26 _ (by rfl) rfl w.heap.size 26 (g0 p).cs rfl _ HK4.out Tryd.underlying26 rfl size26 ?_) | fail)
  refine (within_yes 0 0 65536 (by decide) (by decide) _).mono ?_
  rintro en w5 ⟨rfl, hb⟩
  have HK5 := Lib.hid (HK4.out.below hb HK4.out.lt)
  have HB5 : Hid (Below w.heap.size w w5) := Lib.hid (HB4.out.trans (hb.mono HB4.out.size))
  clear hb c0 c1 c2 c3
  have c0 : w5.cell? ⟨w.heap.size, 0, none⟩ = some (.int .i64 2) := HK5.out.cell 0
  have c1 : w5.cell? ⟨w.heap.size, 1, none⟩ = some (.int .i64 0) := HK5.out.cell 1
  have c2 : w5.cell? ⟨w.heap.size, 2, none⟩ = some (.int .i64 1) := HK5.out.cell 2
  have c3 : w5.cell? ⟨w.heap.size, 3, none⟩ = some (.int .i64 0) := HK5.out.cell 3
  go_wp2_with (first | ((with_reducible show wpList _ _ _ (Oper.mk _ (Op.load 26 _) _ _ _ _ :: _) _ _); refine wpList_load_bk rfl 26 _ rfl w.heap.size 26 (g0 p).cs rfl _ HK5.out Tryd.underlying26 rfl size26 ?_) | ((with_reducible show wpList _ _ _ (Oper.mk _ (Op.load 26 _) _ _ _ _ :: _) _ _); refine wpList_load_bk_g 26 _ (by rfl) rfl w.heap.size 26 (g0 p).cs rfl _ HK5.out Tryd.underlying26 rfl size26 ?_) | fail)
  go_ret
  exact ⟨rfl, HB5.out⟩
set_option maxHeartbeats 1600000 in
set_option maxRecDepth 100000 in
theorem counts_g0 (p : Option Addr) (w : World) : Calls Tryd.prog 17 #[.agg (g0 p).cs] w fun e w' => e = .returned (.bool true) ∧ Below w.heap.size w w' := by
  have HK1 : Hid (Bk (w.alloc (.cells (g0 p).cs 26)) w.heap.size 26 (g0 p).cs) := Lib.hid (heap_alloc_new _ _)
  have HB1 : Hid (Below w.heap.size w (w.alloc (.cells (g0 p).cs 26))) := Lib.hid ((Below.refl _ _).alloc (Nat.le_refl _) _)
  have c6 : (w.alloc (.cells (g0 p).cs 26)).cell? ⟨w.heap.size, 6, none⟩ = some (.int .i64 0) := HK1.out.cell 6
  have c7 : (w.alloc (.cells (g0 p).cs 26)).cell? ⟨w.heap.size, 7, none⟩ = some (.int .i64 0) := HK1.out.cell 7
  have c8 : (w.alloc (.cells (g0 p).cs 26)).cell? ⟨w.heap.size, 8, none⟩ = some (.int .i64 0) := HK1.out.cell 8
  have c9 : (w.alloc (.cells (g0 p).cs 26)).cell? ⟨w.heap.size, 9, none⟩ = some (.slice none 0 0) := HK1.out.cell 9
  go_enter Tryd.func17, Tryd.ntmps17
  go_wp2_with (first | ((with_reducible show wpList _ _ _ (Oper.mk _ (Op.load 26 _) _ _ _ _ :: _) _ _); refine wpList_load_bk rfl 26 _ rfl w.heap.size 26 (g0 p).cs rfl _ HK1.out Tryd.underlying26 rfl size26 ?_) | ((with_reducible show wpList _ _ _ (Oper.mk _ (Op.load 26 _) _ _ _ _ :: _) _ _); refine wpList_load_bk_g 26 _ (by rfl) rfl w.heap.size 26 (g0 p).cs rfl _ HK1.out Tryd.underlying26 rfl size26 ?_) | fail)
  refine (within_yes 0 0 24 (by decide) (by decide) _).mono ?_
  rintro en w2 ⟨rfl, hb⟩
  have HK2 := Lib.hid (HK1.out.below hb HK1.out.lt)
  have HB2 : Hid (Below w.heap.size w w2) := Lib.hid (HB1.out.trans (hb.mono HB1.out.size))
  clear hb c6 c7 c8 c9
  have c6 : w2.cell? ⟨w.heap.size, 6, none⟩ = some (.int .i64 0) := HK2.out.cell 6
  have c7 : w2.cell? ⟨w.heap.size, 7, none⟩ = some (.int .i64 0) := HK2.out.cell 7
  have c8 : w2.cell? ⟨w.heap.size, 8, none⟩ = some (.int .i64 0) := HK2.out.cell 8
  have c9 : w2.cell? ⟨w.heap.size, 9, none⟩ = some (.slice none 0 0) := HK2.out.cell 9
  go_wp2_with (first | ((with_reducible show wpList _ _ _ (Oper.mk _ (Op.load 26 _) _ _ _ _ :: _) _ _); refine wpList_load_bk rfl 26 _ rfl w.heap.size 26 (g0 p).cs rfl _ HK2.out Tryd.underlying26 rfl size26 ?_) | ((with_reducible show wpList _ _ _ (Oper.mk _ (Op.load 26 _) _ _ _ _ :: _) _ _); refine wpList_load_bk_g 26 _ (by rfl) rfl w.heap.size 26 (g0 p).cs rfl _ HK2.out Tryd.underlying26 rfl size26 ?_) | fail)
  refine (within_yes 0 0 24 (by decide) (by decide) _).mono ?_
  rintro en w3 ⟨rfl, hb⟩
  have HK3 := Lib.hid (HK2.out.below hb HK2.out.lt)
  have HB3 : Hid (Below w.heap.size w w3) := Lib.hid (HB2.out.trans (hb.mono HB2.out.size))
  clear hb c6 c7 c8 c9
  have c6 : w3.cell? ⟨w.heap.size, 6, none⟩ = some (.int .i64 0) := HK3.out.cell 6
  have c7 : w3.cell? ⟨w.heap.size, 7, none⟩ = some (.int .i64 0) := HK3.out.cell 7
  have c8 : w3.cell? ⟨w.heap.size, 8, none⟩ = some (.int .i64 0) := HK3.out.cell 8
  have c9 : w3.cell? ⟨w.heap.size, 9, none⟩ = some (.slice none 0 0) := HK3.out.cell 9
  go_wp2_with (first | ((with_reducible show wpList _ _ _ (Oper.mk _ (Op.load 26 _) _ _ _ _ :: _) _ _); refine wpList_load_bk rfl 26 _ rfl w.heap.size 26 (g0 p).cs rfl _ HK3.out Tryd.underlying26 rfl size26 ?_) | ((with_reducible show wpList _ _ _ (Oper.mk _ (Op.load 26 _) _ _ _ _ :: _) _ _); refine wpList_load_bk_g 26 _ (by rfl) rfl w.heap.size 26 (g0 p).cs rfl _ HK3.out Tryd.underlying26 rfl size26 ?_) | fail)
  refine (within_yes 0 0 8 (by decide) (by decide) _).mono ?_
  rintro en w4 ⟨rfl, hb⟩
  have HK4 := Lib.hid (HK3.out.below hb HK3.out.lt)
  have HB4 : Hid (Below w.heap.size w w4) := Lib.hid (HB3.out.trans (hb.mono HB3.out.size))
  clear hb c6 c7 c8 c9
  have c6 : w4.cell? ⟨w.heap.size, 6, none⟩ = some (.int .i64 0) := HK4.out.cell 6
  have c7 : w4.cell? ⟨w.heap.size, 7, none⟩ = some (.int .i64 0) := HK4.out.cell 7
  have c8 : w4.cell? ⟨w.heap.size, 8, none⟩ = some (.int .i64 0) := HK4.out.cell 8
  have c9 : w4.cell? ⟨w.heap.size, 9, none⟩ = some (.slice none 0 0) := HK4.out.cell 9
  go_wp2_with (first | ((with_reducible show wpList _ _ _ (Oper.mk _ (Op.load 26 _) _ _ _ _ :: _) _ _); refine wpList_load_bk rfl 26 _ rfl w.heap.size 26 (g0 p).cs rfl _ HK4.out Tryd.underlying26 rfl size26 ?_) | ((with_reducible show wpList _ _ _ (Oper.mk _ (Op.load 26 _) _ _ _ _ :: _) _ _); refine wpList_load_bk_g 26 _ (by rfl) rfl w.heap.size 26 (g0 p).cs rfl _ HK4.out Tryd.underlying26 rfl size26 ?_) | fail)
  go_loopw [30] (fun si wr => si = .int .i64 0 ∧ wr = w4) (fun _ _ => 0)
  case atStart => exact ⟨rfl, rfl⟩
  case round =>
    obtain ⟨rfl, hww⟩ := hrel
    rw [hww]
    go_wp2_with fail
    go_ret
    exact ⟨rfl, HB4.out⟩
set_option maxHeartbeats 1600000 in
set_option maxRecDepth 100000 in
theorem heads_g0 (p : Option Addr) (w : World) : Calls Tryd.prog 18 #[.agg (g0 p).cs] w fun e w' => e = .returned (.bool true) ∧ Below w.heap.size w w' := by
  have HK1 : Hid (Bk (w.alloc (.cells (g0 p).cs 26)) w.heap.size 26 (g0 p).cs) := Lib.hid (heap_alloc_new _ _)
  have HB1 : Hid (Below w.heap.size w (w.alloc (.cells (g0 p).cs 26))) := Lib.hid ((Below.refl _ _).alloc (Nat.le_refl _) _)
  have c5 : (w.alloc (.cells (g0 p).cs 26)).cell? ⟨w.heap.size, 5, none⟩ = some (.slice none 0 0) := HK1.out.cell 5
  go_enter Tryd.func18, Tryd.ntmps18
  go_wp2_with (first | ((with_reducible show wpList _ _ _ (Oper.mk _ (Op.load 26 _) _ _ _ _ :: _) _ _); refine wpList_load_bk rfl 26 _ rfl w.heap.size 26 (g0 p).cs rfl _ HK1.out Tryd.underlying26 rfl size26 ?_) | ((with_reducible show wpList _ _ _ (Oper.mk _ (Op.load 26 _) _ _ _ _ :: _) _ _); refine wpList_load_bk_g 26 _ (by rfl) rfl w.heap.size 26 (g0 p).cs rfl _ HK1.out Tryd.underlying26 rfl size26 ?_) | fail)
  go_loopw [9] (fun si wr => si = .int .i64 0 ∧ wr = w.alloc (.cells (g0 p).cs 26)) (fun _ _ => 0)
  case atStart => exact ⟨rfl, rfl⟩
  case round =>
    obtain ⟨rfl, hww⟩ := hrel
    rw [hww]
    go_wp2_with fail
    go_ret
    exact ⟨rfl, HB1.out⟩
set_option maxHeartbeats 1600000 in
set_option maxRecDepth 100000 in
theorem decides_one (b o c : Nat) (w : World) (h : w.rangeAt b o ed0.cs.toList) : Calls Tryd.prog 31 #[.slice (some ⟨b, o, none⟩) 1 c] w fun e w' => e = .returned (.bool true) ∧ Below w.heap.size w w' := by
  have H2 : Hid (w.rangeAt b (o + 2) ac0.cs.toList) := Lib.hid (fun j v hv => by
    have := h (2 + j) v (by
      have e1 : ed0.cs.toList = [.int .i64 0, .int .i64 1] ++ ac0.cs.toList := by rfl
      rw [e1, List.getElem?_append_right (by simp)]; simpa using hv)
    rwa [← Nat.add_assoc] at this)
  clear h
  go_enter Tryd.func31, Tryd.ntmps31
  go_wp2_with (first
    | ((with_reducible show wpList _ _ _ (Oper.mk _ (Op.load 32 _) _ _ _ _ :: _) _ _); refine wpList_load_arr rfl 32 _ rfl b (o + 2) (by simp [Act.eval]) ac0.cs _ H2.out Tryd.underlying32 rfl size25 ?_)
    | (go_at_call 37; refine (branch_any ac0 _).mono ?_; rintro en w2 ⟨rfl, hb⟩; have HB := Lib.hid hb; clear hb)
    | fail)
  go_ret
  exact ⟨rfl, HB.out⟩
end Go.Proofs.YtnkimfbdcghgpaaDoor
