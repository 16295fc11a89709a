/-
  DERIVED. The walk of the law on heaps that no call made.
-/
import Derived.Test.YtocgallcmgnmgaaHp
namespace Go.Proofs.Ytocgallcmgnmgaa
open Go.RowKit Go.Maps

abbrev opA (kd t c f d : Int) : Array Value := #[.int .u8 kd, .int .i64 t, .int .i64 c, .int .i64 f, .int .i64 d]
/-- What the law on such heaps meets. -/
structure NoneS (w : World) (bx ls : Nat) (kd t c f d : Int) (q1 : Value) : Prop where
  box : Bk w bx 35 (opA kd t c f d)
  row : Bk w ls 26 #[.pointer none, q1]
  un : Un w q1
theorem NoneS.below {w w' : World} {bx ls : Nat} {kd t c f d : Int} {q1 : Value} (h : NoneS w bx ls kd t c f d q1) (hb : Below w.heap.size w w') : NoneS w' bx ls kd t c f d q1 :=
  ⟨h.box.below hb h.box.lt, h.row.below hb h.row.lt, h.un.below hb⟩

set_option maxHeartbeats 3200000 in
set_option maxRecDepth 100000 in
theorem none_law (kd t c f d : Int) (w : World) : Calls Try.prog 5 #[.agg (opA kd t c f d)] w (livesP w) := by
  have hb0 : Below w.heap.size w (((w.alloc (.cells (opA kd t c f d) 35)).alloc (.cells #[.bool false, .int .i64 0, .slice none 0 0] 50)).alloc (.cells #[.pointer none, .pointer (some ⟨w.heap.size + 1, 0, none⟩)] 26)) :=
    (((Below.refl _ _).alloc (Nat.le_refl _) _).alloc (by simp) _).alloc (by simp; omega) _
  have e1 : (w.alloc (.cells (opA kd t c f d) 35)).heap.size = w.heap.size + 1 := by simp
  have e2 : ((w.alloc (.cells (opA kd t c f d) 35)).alloc (.cells #[.bool false, .int .i64 0, .slice none 0 0] 50)).heap.size = w.heap.size + 2 := by simp
  have hns : NoneS (((w.alloc (.cells (opA kd t c f d) 35)).alloc (.cells #[.bool false, .int .i64 0, .slice none 0 0] 50)).alloc (.cells #[.pointer none, .pointer (some ⟨w.heap.size + 1, 0, none⟩)] 26)) w.heap.size (w.heap.size + 2) kd t c f d (.pointer (some ⟨w.heap.size + 1, 0, none⟩)) := by
    have b1 : Bk (w.alloc (.cells (opA kd t c f d) 35)) w.heap.size 35 (opA kd t c f d) := (MapKept.heap_alloc w _).1
    have b2 : Bk ((w.alloc (.cells (opA kd t c f d) 35)).alloc (.cells #[.bool false, .int .i64 0, .slice none 0 0] 50)) (w.heap.size + 1) 50 #[.bool false, .int .i64 0, .slice none 0 0] := by rw [← e1]; exact (MapKept.heap_alloc _ _).1
    have g1 : ∀ (x : World) (o : Obj), Below x.heap.size x (x.alloc o) := fun x o => (Below.refl _ _).alloc (Nat.le_refl _) _
    refine ⟨(b1.below (g1 _ _) b1.lt).below (g1 _ _) (b1.below (g1 _ _) b1.lt).lt, ?_, .inr ⟨_, rfl, b2.below (g1 _ _) b2.lt⟩⟩
    rw [← e2]; exact (MapKept.heap_alloc _ _).1
  have HB := Lib.hid hb0
  have HNS := Lib.hid hns
  clear hb0 hns e1 e2
  go_enter Try.func5, Try.ntmps5
  go_wp2_with fail
  generalize (((w.alloc (.cells (opA kd t c f d) 35)).alloc (.cells #[.bool false, .int .i64 0, .slice none 0 0] 50)).alloc (.cells #[.pointer none, .pointer (some ⟨w.heap.size + 1, 0, none⟩)] 26)) = wS at HB HNS ⊢
  go_loopw [11] (fun i wr => ∃ k : Nat, i = .int .i64 k ∧ k ≤ 2 ∧ Hid (Below w.heap.size w wr) ∧ Hid (NoneS wr w.heap.size (w.heap.size + 2) kd t c f d (.pointer (some ⟨w.heap.size + 1, 0, none⟩)))) (fun i _ => 2 - (intOf i).toNat)
  case atStart => exact ⟨0, rfl, by decide, HB, HNS⟩
  case round =>
    obtain ⟨k, rfl, hk, HBr, HNr⟩ := hrel
    by_cases hk2 : k < 2
    · obtain ⟨q, hq, hun⟩ : ∃ q, (#[.pointer none, .pointer (some ⟨w.heap.size + 1, 0, none⟩)] : Array Value)[k]? = some q ∧ Un wr q := by
        rcases (by omega : k = 0 ∨ k = 1) with rfl | rfl
        · exact ⟨_, rfl, .inl rfl⟩
        · exact ⟨_, rfl, HNr.out.un⟩
      have hrow : wr.cell? ⟨w.heap.size + 2, k, none⟩ = some q := by rw [HNr.out.row.cell]; exact hq
      have hl : LenIs wr q 0 := hun.len
      have x1 : wr.cell? ⟨w.heap.size, 1, none⟩ = some (.int .i64 t) := HNr.out.box.cell 1
      have x2 : wr.cell? ⟨w.heap.size, 2, none⟩ = some (.int .i64 c) := HNr.out.box.cell 2
      have x3 : wr.cell? ⟨w.heap.size, 3, none⟩ = some (.int .i64 f) := HNr.out.box.cell 3
      have x4 : wr.cell? ⟨w.heap.size, 4, none⟩ = some (.int .i64 d) := HNr.out.box.cell 4
      have HL := Lib.hid hl
      have hG := get_no q 0 c f wr hl (none_is c)
      have HG := Lib.hid hG
      have HP := Lib.hid (put_no q 0 c f d wr hl (none_is c))
      have HF := Lib.hid (free_no q 0 c wr hl (none_is c))
      have HA := Lib.hid (add_un q t wr hun)
      have HC := Lib.hid (cells_un q wr hun)
      have hk0 : (0 : Int) ≤ (k : Int) := Int.natCast_nonneg _
      have hk1 : (k : Int) < 2 := by omega
      have hk3 : decide ((k : Int) < 2) = true := decide_eq_true hk1
      clear hq hun hl hG
      unfold LenIs at HL
      go_wp2_with (first
        | (go_at_call 16; refine HG.out.mono ?_; rintro e w' ⟨rfl, rfl⟩; unfold two)
        | (go_at_call 17; refine HL.out.mono ?_; rintro e w' ⟨rfl, rfl⟩)
        | (go_at_call 12; refine HA.out.mono ?_; rintro e w' ⟨rfl, rfl⟩)
        | (go_at_call 13; refine HP.out.mono ?_; rintro e w' ⟨rfl, rfl⟩)
        | (go_at_call 15; refine HF.out.mono ?_; rintro e w' ⟨rfl, rfl⟩)
        | (go_at_call 14; refine HC.out.mono ?_; rintro e w2 ⟨pz, rfl, hb2⟩; have HB2 : Hid (Below w.heap.size w w2) := Lib.hid (HBr.out.trans (hb2.mono HBr.out.size)); have HN2 := Lib.hid (HNr.out.below hb2); clear hb2))
      go_roundw
      case rel => exact ⟨k + 1, by go_num, by omega, HB2, HN2⟩
      case measure => simp [intOf]; omega
    · have HLV := Lib.hid (lives_any wr)
      go_wp2_with (go_at_call 6; refine HLV.out.mono ?_; rintro e w2 ⟨rfl, hb2⟩; have HB2 : Hid (Below w.heap.size w w2) := Lib.hid (HBr.out.trans (hb2.mono HBr.out.size)); clear hb2)
      go_ret
      exact ⟨rfl, HB2.out⟩
end Go.Proofs.Ytocgallcmgnmgaa
