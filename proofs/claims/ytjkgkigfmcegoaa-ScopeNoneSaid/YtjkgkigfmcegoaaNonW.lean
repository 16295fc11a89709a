/-
  DERIVED. The walk of the law ScopeNone.
-/
import Derived.Test.YtjkgkigfmcegoaaUn
namespace Go.Proofs.Ytjkgkigfmcegoaa
open Go.RowKit Go.Sort Go.Maps

/-- Both tables that no call made, in a row. -/
structure Two (w wr : World) : Prop where
  below : Below w.heap.size w wr
  row : Bk wr (w.heap.size + 1) 29 #[.pointer none, .pointer (some ⟨w.heap.size, 0, none⟩)]
  un : Bk wr w.heap.size 57 #[.map none, .map none, .slice none 0 0, .map none, .slice none 0 0, .map none]
theorem Two.keep {w wr w' : World} (h : Two w wr) (hb : Below wr.heap.size wr w') : Two w w' :=
  ⟨h.below.trans (hb.mono h.below.size), h.row.below hb h.row.lt, h.un.below hb h.un.lt⟩

set_option maxHeartbeats 3200000 in
set_option maxRecDepth 100000 in
theorem none_law (x : ByteArray) (o : Int) (w : World) (hx : x.size ≤ maxLen) (ho : (Lit.int .i64 o).wf = true) : Calls Try.prog 5 #[.string x, .int .i64 o] w fun en w' => en = .returned (.bool true) ∧ Below w.heap.size w w' := by
  have H0 : Hid (Two w ((w.alloc (.cells #[.map none, .map none, .slice none 0 0, .map none, .slice none 0 0, .map none] 57)).alloc (.cells #[.pointer none, .pointer (some ⟨w.heap.size, 0, none⟩)] 29))) := Lib.hid ⟨((Below.refl _ _).alloc (Nat.le_refl _) _).alloc (by simp) _, heap_alloc2_new w _ _, heap_alloc2_old w _ _⟩
  have HX := Lib.hid hx
  have HO := Lib.hid ho
  clear hx ho
  go_enter Try.func5, Try.ntmps5
  go_wp2_with fail
  generalize (w.alloc (.cells #[.map none, .map none, .slice none 0 0, .map none, .slice none 0 0, .map none] 57)).alloc (.cells #[.pointer none, .pointer (some ⟨w.heap.size, 0, none⟩)] 29) = wA at H0 ⊢
  go_loopw [22] (fun i wr => ∃ k : Nat, i = .int .i64 k ∧ k ≤ 2 ∧ Hid (Two w wr)) (fun i _ => 2 - (intOf i).toNat)
  case atStart => exact ⟨0, rfl, Nat.zero_le _, H0⟩
  case round =>
    obtain ⟨k, rfl, hk, HT⟩ := hrel
    by_cases hkl : k < 2
    · obtain ⟨t, hcell, hun⟩ : ∃ t, wr.cell? ⟨w.heap.size + 1, k, none⟩ = some t ∧ Unmade wr t := by
        have hk2 : k = 0 ∨ k = 1 := by omega
        rcases hk2 with rfl | rfl
        · exact ⟨_, HT.out.row.cell 0, .inl rfl⟩
        · exact ⟨_, HT.out.row.cell 1, .inr ⟨_, rfl, HT.out.un⟩⟩
      have hk0 : (0 : Int) ≤ (k : Int) := Int.natCast_nonneg _
      have hk1 : (k : Int) < 2 := by omega
      have HU := Lib.hid hun
      have HC1 := Lib.hid (struct_un x t wr hun HX.out)
      have HC2 := Lib.hid (type_un x t wr hun HX.out)
      have HC3 := Lib.hid (field_un o x t wr hun ⟨HO.out, HX.out⟩)
      clear hun
      go_wp2_with fail
      refine HC1.out.mono ?_; rintro en w1 ⟨rfl, rfl⟩
      go_wp2_with fail
      refine HC2.out.mono ?_; rintro en w1 ⟨rfl, rfl⟩
      go_wp2_with fail
      refine HC3.out.mono ?_; rintro en w3 ⟨rfl, hb3⟩
      have HU3 := Lib.hid (HU.out.keep hb3)
      have HT3 := Lib.hid (HT.out.keep hb3)
      have HC4 := Lib.hid (global_un x t w3 HU3.out HX.out)
      have HC5 := Lib.hid (proc_un x t w3 HU3.out HX.out)
      have HC6 := Lib.hid (structs_un t w3 HU3.out)
      have HC7 := Lib.hid (fields_un t w3 HU3.out)
      clear hb3 hcell
      go_wp2_with fail
      refine HC4.out.mono ?_; rintro en w4 ⟨rfl, rfl⟩
      go_wp2_with fail
      refine HC5.out.mono ?_; rintro en w4 ⟨rfl, rfl⟩
      go_wp2_with fail
      refine HC6.out.mono ?_; rintro en w4 ⟨rfl, rfl⟩
      go_wp2_with fail
      refine HC7.out.mono ?_; rintro en w4 ⟨rfl, hb4⟩
      have HT4 := Lib.hid (HT3.out.keep hb4)
      clear hb4
      go_wp2_with fail
      go_roundw
      case rel => exact ⟨k + 1, by go_num, by omega, HT4⟩
      case measure => simp [intOf]; omega
    · go_wp2_with fail
      refine (lives_any wr).mono ?_; rintro en w1 ⟨rfl, hb⟩
      have HB : Hid (Below w.heap.size w w1) := Lib.hid (HT.out.below.trans (hb.mono HT.out.below.size))
      clear hb
      go_wp2_with fail
      go_ret
      exact ⟨rfl, HB.out⟩
end Go.Proofs.Ytjkgkigfmcegoaa
