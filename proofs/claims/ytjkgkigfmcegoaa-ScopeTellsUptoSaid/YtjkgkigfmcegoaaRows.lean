/-
  NARROWER THAN 'FOR EVERY INPUT', by the rows' own cells (each row's printed sentence says how): ScopeBuilds: loops · ScopeTells: loops.
  DERIVED. THE GIVEN ROWS OF THIS SEAT. 3 by the template 'for every input the law returns true; each argument reads behind the call as it read before'; 0 by the template 'total and deterministic' (their statements: YtjkgkigfmcegoaaTotals.lean).
  GIVEN WITH THE SEED: the statements are not yours to turn. If you find one false, say at which input.
  Laid BY PROGRAM, IN A SANDBOX (cutbox-rows.mjs): the forced cells as the released guide's own fill.sh prints them over the translation 5aa9cc474bedbdc5… (all of the seat's roots in one cut). By AI agents, Wed Nov 11 2026. No macro, syntax, notation, axiom, sorry.
-/
import Derived.Test.YtjkgkigfmcegoaaChecked
import GoSem.Claim
import GoSem.ClaimJoined
import GoSem.ClaimMapViews
import Derived.JoinedTies
import Derived.KernelRfl
namespace Go.Proofs.Ytjkgkigfmcegoaa
/- THE CELL 'sum', in the pinned program and in every row, IS THE sha256 OF THE DUMP (.gsa) THAT YtjkgkigfmcegoaaProg.lean LOADS. Nothing in Lean hashes anything: it is a label: what it is worth is what the hold of that sum in a sandbox is worth. -/
noncomputable def Try.pinned : Pinned := { name := "ytjkgkigfmcegoaa", sum := "5aa9cc474bedbdc549c782ab5b2ccce315d5cbac72bbce0eb700586849f4661c", checked := Try.checked }
namespace Rows
def none {H : Type} : Left H := { results := [], args := [] }

/-- 'umbrallaw08.ScopeBuilds': WHATEVER THE INPUT: true; the input reads as it did. -/
def scopeBuildsSpec : ChangeSpec := { name := "scopeBuilds", fn := fun _ => fun
  | [d] => { results := [.lit (.bool true)], args := [d] }
  | _ => none }
def scopeBuildsRow : OpenClaim := { program := "ytjkgkigfmcegoaa", sum := "5aa9cc474bedbdc549c782ab5b2ccce315d5cbac72bbce0eb700586849f4661c", func := "umbral/umbrallaw08.ScopeBuilds", spec := "scopeBuilds", recurses := true, loops := true, plainKeys := false, apart := false }
def ScopeBuildsSaid : Prop := scopeBuildsRow.holds Try.pinned (OpenSpec.ofChange scopeBuildsSpec)

/-- ITS FALSE NEIGHBOUR: 'it returns false'. Refute it at one input. -/
def scopeBuildsWrong : ChangeSpec := { name := "scopeBuilds", fn := fun _ => fun
  | [d] => { results := [.lit (.bool false)], args := [d] }
  | _ => none }
def ScopeBuildsWrongFalsely : Prop := scopeBuildsRow.holds Try.pinned (OpenSpec.ofChange scopeBuildsWrong)

/-- 'umbrallaw08.ScopeTells': WHATEVER THE INPUT: true; the input reads as it did. -/
def scopeTellsSpec : ChangeSpec := { name := "scopeTells", fn := fun _ => fun
  | [d1, d2, d3] => { results := [.lit (.bool true)], args := [d1, d2, d3] }
  | _ => none }
def scopeTellsRow : OpenClaim := { program := "ytjkgkigfmcegoaa", sum := "5aa9cc474bedbdc549c782ab5b2ccce315d5cbac72bbce0eb700586849f4661c", func := "umbral/umbrallaw08.ScopeTells", spec := "scopeTells", recurses := true, loops := true, plainKeys := false, apart := false }
def ScopeTellsSaid : Prop := scopeTellsRow.holds Try.pinned (OpenSpec.ofChange scopeTellsSpec)

/-- ITS FALSE NEIGHBOUR: 'it returns false'. Refute it at one input. -/
def scopeTellsWrong : ChangeSpec := { name := "scopeTells", fn := fun _ => fun
  | [d1, d2, d3] => { results := [.lit (.bool false)], args := [d1, d2, d3] }
  | _ => none }
def ScopeTellsWrongFalsely : Prop := scopeTellsRow.holds Try.pinned (OpenSpec.ofChange scopeTellsWrong)

/-- 'umbrallaw08.ScopeNone': WHATEVER THE INPUT: true; the input reads as it did. -/
def scopeNoneSpec : ChangeSpec := { name := "scopeNone", fn := fun _ => fun
  | [d1, d2] => { results := [.lit (.bool true)], args := [d1, d2] }
  | _ => none }
def scopeNoneRow : OpenClaim := { program := "ytjkgkigfmcegoaa", sum := "5aa9cc474bedbdc549c782ab5b2ccce315d5cbac72bbce0eb700586849f4661c", func := "umbral/umbrallaw08.ScopeNone", spec := "scopeNone", plainKeys := false, apart := false }
def ScopeNoneSaid : Prop := scopeNoneRow.holds Try.pinned (OpenSpec.ofChange scopeNoneSpec)

/-- ITS FALSE NEIGHBOUR: 'it returns false'. Refute it at one input. -/
def scopeNoneWrong : ChangeSpec := { name := "scopeNone", fn := fun _ => fun
  | [d1, d2] => { results := [.lit (.bool false)], args := [d1, d2] }
  | _ => none }
def ScopeNoneWrongFalsely : Prop := scopeNoneRow.holds Try.pinned (OpenSpec.ofChange scopeNoneWrong)

/- THE SECOND FORM. 'bulk': how many values and letters a reading holds, each counted each time it is reached (what is shared counts as often as it is met; a slice's spare places count too). A statement '..UptoSaid' is the law's where the arguments, and the package variables that the reading takes, are together of bulk at most 1048576: NARROWER than '..Said'. Prove '..Said' where nothing that the law and all that it calls make is longer than what came in: it says more and counts as full. Else prove '..UptoSaid'. A law counts once. -/
mutual
def uptoBulk {H : Type} : DataW H → Nat
  | .lit (.string bytes) => bytes.length + 1
  | .lit _ => 1
  | .nil => 1
  | .ptr d => uptoBulk d + 1
  | .slice elems spare => uptoBulkAll elems + uptoBulkAll spare + 1
  | .agg parts => uptoBulkAll parts + 1
  | .iface _ d => uptoBulk d + 1
  | .map entries => uptoBulkEntries entries + 1
  | .held _ => 1
def uptoBulkAll {H : Type} : List (DataW H) → Nat
  | [] => 0
  | d :: r => uptoBulk d + uptoBulkAll r
def uptoBulkEntries {H : Type} : List (Lit × DataW H) → Nat
  | [] => 0
  | x :: r => uptoBulkEntry x + uptoBulkEntries r
def uptoBulkEntry {H : Type} : Lit × DataW H → Nat
  | (.string bytes, d) => bytes.length + uptoBulk d + 1
  | (_, d) => uptoBulk d + 1
 end
def uptoSmall : (H : Type) → List (DataW H) → Bool := fun _ ds => decide (uptoBulkAll ds ≤ 1048576)
def OpenSpec.upto (s : _root_.Go.ChangeSpec) : _root_.Go.OpenSpec := { _root_.Go.OpenSpec.ofChange s with cond := some uptoSmall }

/-- 'umbrallaw08.ScopeBuilds', WHERE WHAT IT READS IS OF BULK AT MOST 1048576: true; the input reads as it did. -/
def scopeBuildsUptoRow : OpenClaim := { program := "ytjkgkigfmcegoaa", sum := "5aa9cc474bedbdc549c782ab5b2ccce315d5cbac72bbce0eb700586849f4661c", func := "umbral/umbrallaw08.ScopeBuilds", spec := "scopeBuilds", recurses := true, loops := true, plainKeys := false, apart := false, narrowed := true }
def ScopeBuildsUptoSaid : Prop := scopeBuildsUptoRow.holds Try.pinned (OpenSpec.upto scopeBuildsSpec)

/-- 'umbrallaw08.ScopeTells', WHERE WHAT IT READS IS OF BULK AT MOST 1048576: true; the input reads as it did. -/
def scopeTellsUptoRow : OpenClaim := { program := "ytjkgkigfmcegoaa", sum := "5aa9cc474bedbdc549c782ab5b2ccce315d5cbac72bbce0eb700586849f4661c", func := "umbral/umbrallaw08.ScopeTells", spec := "scopeTells", recurses := true, loops := true, plainKeys := false, apart := false, narrowed := true }
def ScopeTellsUptoSaid : Prop := scopeTellsUptoRow.holds Try.pinned (OpenSpec.upto scopeTellsSpec)

/-- 'umbrallaw08.ScopeNone', WHERE WHAT IT READS IS OF BULK AT MOST 1048576: true; the input reads as it did. -/
def scopeNoneUptoRow : OpenClaim := { program := "ytjkgkigfmcegoaa", sum := "5aa9cc474bedbdc549c782ab5b2ccce315d5cbac72bbce0eb700586849f4661c", func := "umbral/umbrallaw08.ScopeNone", spec := "scopeNone", plainKeys := false, apart := false, narrowed := true }
def ScopeNoneUptoSaid : Prop := scopeNoneUptoRow.holds Try.pinned (OpenSpec.upto scopeNoneSpec)

end Rows
end Go.Proofs.Ytjkgkigfmcegoaa
