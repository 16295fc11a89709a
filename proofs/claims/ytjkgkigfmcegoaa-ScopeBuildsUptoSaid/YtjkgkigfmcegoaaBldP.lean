/- Whether any program's names may be, or the first place and error, is what the document says: for every program of which what it reads is of bulk at most 1048576. -/
import Derived.Test.YtjkgkigfmcegoaaBldW
import Derived.Test.YtjkgkigfmcegoaaPost
import Derived.JoinedCond
namespace Go.Proofs.Ytjkgkigfmcegoaa
open Go.ChangeShapes Go.WideShapes Go.ChangeAt Go.RowKit

/-- The bound, as it is handed over. -/
theorem wt_head {H : Type} {d : DataW H} {r : List (DataW H)} {t : TypeId} (hk : Rows.uptoSmall H (d :: r) = true) : Wt t d := by
  have h : Rows.uptoBulkAll (d :: r) ≤ 1048576 := of_decide_eq_true hk
  simp only [Rows.uptoBulkAll] at h
  unfold Wt
  omega

set_option maxRecDepth 100000 in
theorem builds_lifted (os : Os) (started : os.Started) (H : Type) (enc : TypeId × Value → H) (F : Stop.Interp) :
    ReturnsInHanded {} Try.checked os 3 .any ((Rows.OpenSpec.upto Rows.scopeBuildsSpec).pre6 enc Try.prog Try.f3 Rows.scopeBuildsUptoRow.domain false) (((Rows.OpenSpec.upto Rows.scopeBuildsSpec).at F).post enc Try.prog Try.f3 false true false false) := by
  refine returnsInHanded_of_cond (C := Try.checked) (s := Rows.OpenSpec.upto Rows.scopeBuildsSpec) (k := Rows.uptoSmall) rfl Try.own started (by kernel_rfl) Try.func3
    (OpenSpec.witness (enc := enc) (C := Try.checked) (s := Rows.OpenSpec.upto Rows.scopeBuildsSpec) (k := Rows.uptoSmall) rfl false ⟨#[], #[.agg #[.slice none 0 0, .slice none 0 0, .slice none 0 0]], []⟩ 8 (by kernel_rfl) (by kernel_rfl) (by kernel_rfl)
      (x := ([.agg [.nil, .nil, .nil]], [], [])) (by kernel_rfl) rfl (by kernel_rfl)) ?_
  intro W base args ds gs before hval0 hW _ hk _
  have hval : ∀ (j : Nat) t v, Try.f3.params[j]? = some t → args[j]? = some v → Value.okWide Try.prog W .any base t v := hval0
  have hW' := hW
  obtain ⟨p, q, hA0, hV, rfl, hfz, hnd⟩ := hW
  have hA : DataW.TrodAll enc Try.prog W 0 (fun _ => true) true Try.f3.params.toList args.toList ds p := hA0
  rw [Try.params3] at hA hval
  obtain ⟨v0, d0, rfl, rfl, h0⟩ := trodAll_one hA
  obtain ⟨rfl, rfl⟩ := trodVars_none hV
  have h0k := h0
  have hlt : ∀ x ∈ p, x.block < W.heap.size := fun x hx => hW'.lt x (by simpa using hx)
  obtain ⟨a0, rfl, _⟩ := okWide_struct Try.underlying26 (hval 0 26 v0 rfl rfl)
  obtain ⟨f0, h0⟩ := h0
  obtain ⟨x, hx, lx⟩ := program_open h0 (wt_head hk)
  obtain rfl : a0 = pval x := by rw [show pval x = (Pg.cells x).toArray from rfl, ← hx]; simp [Value.cells]
  clear hA0 hval0
  simp only [List.append_nil] at hW'
  refine (builds_law x W lx).mono fun e W' ⟨he, hb⟩ => ?_
  subst he
  exact ⟨_, rfl, law_end hW' (by kernel_rfl) Try.underlying4 rfl (trodAll_mk1 (Below.trod Try.laidOut (by kernel_rfl) (of_decide_eq_true (by kernel_rfl)) h0k hb hlt)) rfl hb⟩

theorem builds_holds : Rows.ScopeBuildsUptoSaid :=
  OpenClaim.holds_of_cond 3 Try.f3 rfl rfl rfl rfl rfl rfl rfl ⟨rfl, rfl, rfl, rfl, rfl⟩ rfl rfl rfl rfl rfl (by kernel_rfl) Try.func3 (by kernel_rfl)
    (of_decide_eq_true (by kernel_rfl)) (by unfold Func.isWrapper; first | (rw [if_pos (by decide +kernel)]; kernel_rfl) | (rw [if_neg (by decide +kernel)]; exact ⟨rfl, rfl⟩))
    (fun os started H enc _ F => builds_lifted os started H enc F)

#print axioms builds_holds
end Go.Proofs.Ytjkgkigfmcegoaa
