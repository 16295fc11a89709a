/-
  DERIVED. The walk of the program's Sort.
-/
import Derived.Test.YtelhokjjllikhaaSlSt
import Derived.Deep.DeepCutAuto
import Derived.Laws.CopyOwn
namespace Go.Proofs.Ytelhokjjllikhaa
open Go.RowKit Go.Sort

theorem sw_below {blk off : Nat} {d' : Array Nat} {W W' : World} (h : SW encF W blk off d' W') (hb : blk < W.heap.size) : Below blk W W' := by
  obtain ⟨n, os, rfl⟩ := h
  refine ⟨rfl, rfl, rfl, ?_, fun k hk => ?_⟩
  · unfold sortWorld; rw [size_grow, size_putRow]; show W.heap.size ≤ W.heap.size + _; omega
  · unfold sortWorld Sort.grow putRow mapBlock Sort.ahead
    simp only [Array.getElem?_append, Array.size_modify, Array.getElem?_modify]
    rw [if_pos (by omega), if_neg (by omega)]

/-- What a slice of floats holds: d, cell by cell (nothing is asked of an empty one). -/
def Reads (w : World) (p : Option Addr) (d : Array Nat) : Prop := 0 < d.size → ∃ b off, p = some ⟨b, off, none⟩ ∧ ∀ k, k < d.size → w.cell? ⟨b, off + k, none⟩ = some (encF d[k]!)

/-- What Sort leaves. -/
def Sorted (w : World) (d : Array Nat) (e : Ending) (w' : World) : Prop :=
  ∃ d' : Array Nat, e = .returned (.slice (some ⟨w.heap.size, 0, none⟩) d.size d.size) ∧ PermIn 0 d.size d d' ∧ Fl.Srt 0 d.size d' ∧ Below w.heap.size w w' ∧ w.heap.size < w'.heap.size ∧
    ∀ k, k < d.size → w'.cell? ⟨w.heap.size, k, none⟩ = some (encF d'[k]!)

theorem run_make22 (n : Nat) (h : n ≤ 1000) (w : World) : (Instr.makeSlice 22 (.int .i64 n) (.int .i64 n)).run Try.prog w = .ok (.slice (some ⟨w.heap.size, 0, none⟩) n n) (w.alloc (.cells (madeCells #[.float .f64 0] n) 23)) := by
  have := run_make (P := Try.prog) w 22 23 siE (.float .f64 0) (by kernel_rfl) (by kernel_rfl) (by kernel_rfl) .i64 .i64 n n (by omega) (Int.le_refl _) (by have : siE.bytes = 8 := (by kernel_rfl); rw [this]; omega) (by omega)
  have hs : siE.size = 1 := by kernel_rfl
  rw [hs] at this
  simpa [Value.cells] using this

theorem cell_lt {w : World} {b o : Nat} {v : Value} (h : w.cell? ⟨b, o, none⟩ = some v) : b < w.heap.size := by
  obtain ⟨c, e, fr, hb, _⟩ := cells_of_cell? h
  exact (Array.getElem?_eq_some_iff.1 hb).1

theorem copied_at (w : World) (C : Array Value) (v : Value) : ((w.alloc (.cells C 23)).alloc (.cells #[v] 22)).heap[w.heap.size]? = some (.cells C 23 (0, 0)) := by
  rw [alloc_eq_grow, alloc_eq_grow]; unfold Sort.grow; simp [Array.getElem?_push]

theorem copied (w : World) (d : Array Nat) (C : Array Value) (hC : C.size = d.size) (v : Value) (W2 : World)
    (hW : W2 = ((w.alloc (.cells C 23)).alloc (.cells #[v] 22)).setRow w.heap.size (C.toList.take 0 ++ (d.toList.map encF ++ C.toList.drop (0 + (d.toList.map encF).length))).toArray) :
    Holds encF W2 w.heap.size 0 d ∧ W2.cell? ⟨w.heap.size + 1, 0, none⟩ = some v ∧ RowKit.Below w.heap.size w W2 ∧ W2.heap.size = w.heap.size + 2 := by
  have hrow : (C.toList.take 0 ++ (d.toList.map encF ++ C.toList.drop (0 + (d.toList.map encF).length))).toArray = d.map encF := by
    rw [List.take_zero, List.nil_append, List.drop_of_length_le (by simp; omega), List.append_nil]
    apply Array.ext' ; simp
  rw [hrow] at hW
  have h1 : ((w.alloc (.cells C 23)).alloc (.cells #[v] 22)).heap[w.heap.size]? = some (.cells C 23 (0, 0)) := by
    rw [alloc_eq_grow, alloc_eq_grow]; unfold Sort.grow; simp [Array.getElem?_push]
  have h2 : ((w.alloc (.cells C 23)).alloc (.cells #[v] 22)).heap[w.heap.size + 1]? = some (.cells #[v] 22 (0, 0)) := by
    have := (MapKept.heap_alloc (w.alloc (.cells C 23)) (.cells #[v] 22)).1
    rw [show (w.alloc (.cells C 23)).heap.size = w.heap.size + 1 by simp] at this
    exact this
  have g1 := setRow_heap _ w.heap.size _ (d.map encF) 23 (0, 0) h1
  have g2 := setRow_other ((w.alloc (.cells C 23)).alloc (.cells #[v] 22)) w.heap.size (w.heap.size + 1) (d.map encF) (by omega)
  rw [h2] at g2
  have hb : RowKit.Below w.heap.size w (((w.alloc (.cells C 23)).alloc (.cells #[v] 22)).setRow w.heap.size (d.map encF)) :=
    below_setRow (((Below.refl _ _).alloc (Nat.le_refl _) _).alloc (by simp) _) (Nat.le_refl _) _
  rw [← hW] at g1 g2 hb
  refine ⟨fun j hj => ⟨?_, ?_⟩, ?_, hb, ?_⟩
  · simp [World.cell?, g1, hj]
  · simp [World.frozen?, g1]
  · simp [World.cell?, g2]
  · rw [hW, setRow_size]; simp

set_option maxHeartbeats 1600000 in
theorem sort_any (p : Option Addr) (cap : Nat) (d : Array Nat) (w : World) (hr : Reads w p d) (hsm : d.size ≤ 1000) :
    Calls Try.prog 9 #[.slice p d.size cap] w (Sorted w d) := by
  have hm := run_make22 d.size hsm
  have HR := Lib.hid hr
  clear hr
  go_enter Try.func9, Try.ntmps9
  go_upto_region 2 with fail
  go_cut [] (fun wx => Holds encF wx w.heap.size 0 d ∧ wx.cell? ⟨w.heap.size + 1, 0, none⟩ = some (.slice (some ⟨w.heap.size, 0, none⟩) d.size d.size) ∧ Below w.heap.size w wx ∧ wx.heap.size = w.heap.size + 2)
  case first =>
    have hbel : Below w.heap.size w ((w.alloc (Obj.cells (madeCells #[Value.float FloatKind.f64 0] d.size) 23)).alloc (Obj.cells #[Value.slice (some ⟨w.heap.size, 0, none⟩) d.size d.size] 22)) :=
      ((Below.refl _ _).alloc (Nat.le_refl _) _).alloc (by simp) _
    by_cases h0 : d.size = 0
    · have H0 := Lib.hid h0
      clear h0
      go_wp2_with (with_reducible refine wpList_copy_nothing rfl (.tmp 7) (.tmp 8) 22 22 rfl 23 Try.underlying22 (by kernel_rfl) (some ⟨w.heap.size, 0, none⟩) p d.size d.size d.size cap rfl rfl ?c1 ?_)
      case c1 => rw [H0.out]; rfl
      go_meet
      refine ⟨fun j hj => by have := H0.out; omega, by simp, hbel, by simp⟩
    · obtain ⟨b, off, rfl, hcells⟩ := HR.out (by omega)
      go_wp2_with (with_reducible refine wpList_copy_own rfl (.tmp 7) (.tmp 8) 22 22 rfl 23 Try.underlying22 (by kernel_rfl) w.heap.size 0 d.size d.size ⟨b, off, none⟩ d.size cap rfl rfl (madeCells #[Value.float FloatKind.f64 0] d.size) 23 ?c1 (d.toList.map encF) ?c2 ?c3 ?c4 ?c5 ?_)
      case c1 => exact copied_at w _ _
      case c2 => simp
      case c3 =>
        intro j v hj
        simp only [List.getElem?_map, Array.getElem?_toList, Option.map_eq_some_iff] at hj
        obtain ⟨x, hx, rfl⟩ := hj
        obtain ⟨hlt, rfl⟩ := Array.getElem?_eq_some_iff.1 hx
        have := hcells j hlt
        rw [getElem!_pos d j hlt] at this
        rw [show (⟨b, off, none⟩ : Addr).add j = ⟨b, off + j, none⟩ by simp [Addr.add]]
        exact (hbel.cell (p := ⟨b, off + j, none⟩) (cell_lt this)).trans this
      case c4 => simp [size_madeCells]
      case c5 => intro v hv; obtain ⟨x, _, rfl⟩ := List.mem_map.1 hv; rfl
      go_meet
      exact copied w d _ (size_madeCells _ _) _ _ rfl
  case rest =>
    obtain ⟨hH, hbox, hbel, hsz⟩ := hcut
    have hc := sliceStable_w w.heap.size 0 d.size (w.heap.size + 1) d wc hH (by omega) (by omega) (by omega) hbox hsm
    have HC := Lib.hid hc
    have HH := Lib.hid hH
    have HZ := Lib.hid hsz
    have hlt : w.heap.size + 1 < wc.heap.size := by omega
    clear hc hH hsz
    go_wp2_with fail
    refine HC.out.mono ?_
    rintro e w2 ⟨rfl, d', hs, hp, hr⟩
    have hbox2 : w2.cell? ⟨w.heap.size + 1, 0, none⟩ = some (.slice (some ⟨w.heap.size, 0, none⟩) d.size d.size) := by rw [sw_cell hs _ _ (by omega) hlt]; exact hbox
    have HS := Lib.hid hs
    have HP := Lib.hid hp
    have HR2 := Lib.hid hr
    clear hs hp hr HC hbox
    go_wp2
    go_ret
    have hb2 := sw_below HS.out (by omega)
    refine ⟨d', rfl, HP.out, HR2.out, hbel.trans hb2, by have := hb2.size; omega, fun k hk => ?_⟩
    have := (HS.out.holds (by omega) HH.out HP.out.1 k (by rw [HP.out.1]; exact hk)).1
    rw [Nat.zero_add] at this
    exact this

end Go.Proofs.Ytelhokjjllikhaa
