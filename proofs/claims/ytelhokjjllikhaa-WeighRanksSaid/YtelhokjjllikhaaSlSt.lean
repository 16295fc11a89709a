/-
  DERIVED. sort.SliceStable at the program's own row and test, whatever the row's length up to a thousand.
-/
import Derived.Test.YtelhokjjllikhaaClos
namespace Go.Proofs.Ytelhokjjllikhaa
open Go.RowKit Go.Sort Go.Lib

noncomputable def siT : TypeInfo := (Try.prog.info? 22).get (by kernel_rfl)
noncomputable def siE : TypeInfo := (Try.prog.info? 23).get (by kernel_rfl)
theorem siK (n : Nat) (h2 : 2 ≤ n) : swapperK n siE 14 = 5 := by
  have a : siE.hasPointers = false := by kernel_rfl
  have b : siE.bytes = 8 := by kernel_rfl
  have c : (n == 0) = false := by simp; omega
  have d : (n == 1) = false := by simp; omega
  simp [swapperK, a, b, c, d]

theorem clos_reads (blk off c bx : Nat) (d : Array Nat) (W : World) (hH : Holds encF W blk off d) (hb : blk < W.heap.size) (hbx : bx < W.heap.size) (hne : bx ≠ blk)
    (hbox : W.cell? ⟨bx, 0, none⟩ = some (.slice (some ⟨blk, off, none⟩) d.size c)) : LessReads Try.prog 23 #[.pointer (some ⟨bx, 0, none⟩)] encF Fl.less blk off d.size W := by
  intro m os dk hs i j hi hj
  have hsw : SW encF W blk off dk (sortWorld encF W blk off m dk os) := ⟨m, os, rfl⟩
  have hh := holds_sortWorld encF W blk off m d dk os hb hH hs
  exact clos_any blk off c bx d.size _ (fun t => dk[t]!) (by rw [sw_cell hsw bx 0 hne hbx]; exact hbox) (fun t ht => (hh t (by omega)).1) i j hi hj

theorem sliceStable_w (blk off c bx : Nat) (d : Array Nat) (W : World) (hH : Holds encF W blk off d) (hb : blk < W.heap.size) (hbx : bx < W.heap.size) (hne : bx ≠ blk)
    (hbox : W.cell? ⟨bx, 0, none⟩ = some (.slice (some ⟨blk, off, none⟩) d.size c)) (hsm : d.size ≤ 1000) :
    Calls Try.prog 22 #[.iface 22 (.slice (some ⟨blk, off, none⟩) d.size c), .func (.func 23) #[] #[.pointer (some ⟨bx, 0, none⟩)]] W fun e w' =>
      e = .returned (.tuple #[]) ∧ ∃ d', SW encF W blk off d' w' ∧ PermIn 0 d.size d d' ∧ Fl.Srt 0 d.size d' := by
  by_cases h2 : 2 ≤ d.size
  · have hless := clos_reads blk off c bx d W hH hb hbx hne hbox
    refine Any.sort_SliceStable_of_stable Try.laysGt8 22 23 siT siE (by kernel_rfl) (by kernel_rfl) (by kernel_rfl) (by kernel_rfl) 14 (fun _ => by kernel_rfl) _ d.size c (by omega) 36 (by rw [siK _ h2]; kernel_rfl) (.func 23) #[] #[.pointer (some ⟨bx, 0, none⟩)] W _ ?_
    have hB : sliceBound Try.prog 23 siE 14 (some ⟨blk, off, none⟩) d.size c = #[.slice (some ⟨blk, off, none⟩) d.size c, typeHandle Try.prog 23] := by
      unfold sliceBound; rw [if_neg (swapperK_gt _ _ _ h2)]
    have hsw : SW encF W blk off d (stableWorld Try.prog Try.laysGt8_ren 22 (some ⟨blk, off, none⟩) d.size c W) := ((SW.start hH).alloc _).alloc _
    rw [hB]
    generalize stableWorld Try.prog Try.laysGt8_ren 22 (some ⟨blk, off, none⟩) d.size c W = W1 at hsw
    have E : Env 23 #[.pointer (some ⟨bx, 0, none⟩)] 36 #[.slice (some ⟨blk, off, none⟩) d.size c, typeHandle Try.prog 23] blk off d W1 :=
      ⟨enters_of Try.func23 (by kernel_rfl) rfl, hsw.lessReads hless hb rfl,
        swapSwaps_of_literal true 36 (fun args W => run_callFunc_extern Try.func36 (by kernel_rfl) (by kernel_rfl) (by kernel_rfl) (e := Extern.ReflectliteSwapper.swap true) (by kernel_rfl) args W) 23 siE (by kernel_rfl) (by kernel_rfl) (fun _ => by kernel_rfl) encF (fun _ => rfl) blk off d.size c,
        hsw.lt hb, hsw.holds hb hH rfl, hsm⟩
    refine (stable_w 23 _ 36 _ blk off d W1 E d.size rfl).mono ?_
    rintro e w' ⟨rfl, d', h1, h2, h3⟩
    exact ⟨rfl, d', sw_trans hsw h1 hb h2.1, h2, h3⟩
  · have hc : Calls Try.prog 22 #[.iface 22 (.slice (some ⟨blk, off, none⟩) d.size c), .func (.func 23) #[] #[.pointer (some ⟨bx, 0, none⟩)]] W fun e w' => e = .returned (.tuple #[]) ∧ ∃ os, w' = Sort.grow W os := by
      by_cases h0 : d.size = 0
      · exact Any.sort_SliceStable_tiny Try.laysGt8 22 23 siT siE (by kernel_rfl) (by kernel_rfl) (by kernel_rfl) (by kernel_rfl) 14 (fun _ => by kernel_rfl) _ d.size c (by omega) 32 (by rw [h0]; kernel_rfl) _ _ _ W
      · exact Any.sort_SliceStable_tiny Try.laysGt8 22 23 siT siE (by kernel_rfl) (by kernel_rfl) (by kernel_rfl) (by kernel_rfl) 14 (fun _ => by kernel_rfl) _ d.size c (by omega) 33 (by rw [show d.size = 1 by omega]; kernel_rfl) _ _ _ W
    refine hc.mono ?_
    rintro e w' ⟨rfl, os, rfl⟩
    refine ⟨rfl, d, ⟨0, os, ?_⟩, permIn_refl _ _ _, fun i j p q r => by omega⟩
    unfold sortWorld
    rw [show Sort.ahead W 0 = W from rfl, putRow_self encF W blk off d hH]

end Go.Proofs.Ytelhokjjllikhaa
