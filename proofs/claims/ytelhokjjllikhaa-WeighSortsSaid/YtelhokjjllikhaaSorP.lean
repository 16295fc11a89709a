/- Any floats stand in the document's order, and the sum, the best one and the rank are what it says. For every input, no condition. -/
import Derived.Test.YtelhokjjllikhaaOpen
import Derived.Test.YtelhokjjllikhaaSorW
namespace Go.Proofs.Ytelhokjjllikhaa
open Go.ChangeShapes Go.WideShapes Go.ChangeAt Go.RowKit Go.Deep

theorem nil_reads {H : Type} {enc : TypeId × Value → H} {P : Program} {w : World} {base : Nat} {spare : Nat → Bool} {held : Bool} {t e : TypeId} {n c : Nat} {d : DataW H} {ps : List MemPlace}
    (ht : P.underlying t = some (.slice e)) (hc : P.cellsOf e = 1) (h : DataW.Trod enc P w base spare held t (.slice none n c) d ps) : n = 0 ∧ c = 0 := by
  obtain ⟨fuel, hf⟩ := h
  rcases open_slice1 ht hc hf with ⟨hcs, _⟩ | ⟨a, len, cap, m, k, V, D, Pl, hcs, _⟩
  · simpa [Value.cells] using hcs
  · simp [Value.cells] at hcs

theorem sorts_all (p : Option Addr) (c : Nat) (d : Array Nat) (x : Nat) (w : World) (hr : Reads w p d) (hn : p = none → d.size = 0 ∧ c = 0) (wd : Words d) (hl : d.size ≤ 9223372036854775807) (lx : x < 18446744073709551616) :
    Calls Try.prog 3 #[.slice p d.size c, .float .f64 x] w fun e w' => e = .returned (.bool true) ∧ Below w.heap.size w w' := by
  by_cases h : d.size ≤ 300
  · exact sorts_any p c d x w hr hn h wd lx
  · exact sorts_long p d.size c x w (by omega) hl

set_option maxRecDepth 100000 in
theorem sorts_lifted (os : Os) (started : os.Started) (H : Type) (enc : TypeId × Value → H) :
    ReturnsInHanded {} Try.checked os 3 .any (Rows.weighSortsSpec.pre6 enc Try.prog Try.f3 Rows.weighSortsRow.domain false) (Rows.weighSortsSpec.post enc Try.prog Try.f3 false true false false) := by
  refine returnsInHanded_of_change (C := Try.checked) Try.own started (by kernel_rfl) Try.func3
    (ChangeSpec.witness6 (enc := enc) (C := Try.checked) false ⟨#[], #[.slice none 0 0, .float .f64 0], []⟩ 8 (by kernel_rfl) (by kernel_rfl) (by kernel_rfl) (by kernel_rfl)) ?_
  intro W base args ds gs before hval0 hW hcnd _
  have hval : ∀ (j : Nat) t v, Try.f3.params[j]? = some t → args[j]? = some v → Value.okWide Try.prog W .any base t v := hval0
  have hW' := hW
  obtain ⟨p, q, hA0, hV, rfl, hfz, hnd⟩ := hW
  have hA : DataW.TrodAll enc Try.prog W 0 (fun _ => true) true Try.f3.params.toList args.toList ds p := hA0
  rw [Try.params3] at hA hval
  obtain ⟨v0, v1, d0, d1, p0, p1, rfl, rfl, rfl, h0, h1⟩ := trodAll_two hA
  obtain ⟨rfl, rfl⟩ := trodVars_none hV
  have h0k := h0
  obtain ⟨y, rfl, rfl, rfl, wy⟩ := open_float Try.underlying23 (hval 1 23 v1 rfl rfl) h1
  have hlt : ∀ x ∈ p0, x.block < W.heap.size := fun x hx => hW'.lt x (by simpa using hx)
  obtain ⟨a, c, zs, rfl, hr, hw, hl⟩ := open_floats Try.underlying22 Try.underlying23 (by kernel_rfl) (okWide_slice Try.underlying22 (hval 0 22 v0 rfl rfl)) h0
  have hnil : a = none → zs.size = 0 ∧ c = 0 := fun e => by subst e; exact nil_reads Try.underlying22 (by kernel_rfl) h0k
  clear hA0 hval0
  simp only [List.append_nil] at hW'
  refine (sorts_all a c zs y W hr hnil hw hl (by simpa [Lit.wf] using wy)).mono fun e W' ⟨he, hb⟩ => ?_
  subst he
  have ht := trodAll_mk2 (Below.trod Try.laidOut (by kernel_rfl) (of_decide_eq_true (by kernel_rfl)) h0k hb hlt) (shut_float (enc := enc) (w := W') (base := 0) (spare := fun b => decide (b < W.heap.size)) (held := true) Try.underlying23 wy)
  rw [List.append_nil] at ht
  exact ⟨_, rfl, law_end hW' (by kernel_rfl) Try.underlying4 rfl ht rfl hb⟩

theorem sorts_holds : Rows.WeighSortsSaid :=
  OpenClaim.holds_of_wide 3 Try.f3 rfl rfl rfl rfl rfl rfl rfl ⟨rfl, rfl, rfl, rfl, rfl⟩ rfl rfl rfl rfl rfl (by kernel_rfl) Try.func3 (by kernel_rfl)
    (of_decide_eq_true (by kernel_rfl)) (by unfold Func.isWrapper; first | (rw [if_pos (by decide +kernel)]; kernel_rfl) | (rw [if_neg (by decide +kernel)]; exact ⟨rfl, rfl⟩))
    (fun os started H enc _ => sorts_lifted os started H enc)

#print axioms sorts_holds
end Go.Proofs.Ytelhokjjllikhaa
