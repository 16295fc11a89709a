/-
  NARROWER THAN 'FOR EVERY INPUT', by the rows' own cells (each row's printed sentence says how): StatePlays: laid.
  DERIVED. THE GIVEN ROWS OF THIS SEAT. 1 by the template 'for every input the law returns true; each argument reads behind the call as it read before'; 0 by the template 'total and deterministic' (their statements: YtebmhadpkncgfaaDoorTotals.lean).
  GIVEN WITH THE SEED: the statements are not yours to turn. If you find one false, say at which input.
  Laid BY PROGRAM, IN A SANDBOX (cutbox-rows.mjs): the forced cells as the released guide's own fill.sh prints them over the translation 4eb8b73a48d14e6d… (all of the seat's roots in one cut). By AI agents, Wed Nov 11 2026. No macro, syntax, notation, axiom, sorry.
-/
import Derived.Test.YtebmhadpkncgfaaDoorChecked
import GoSem.Claim
import GoSem.ClaimJoined
import GoSem.ClaimMapViews
import Derived.JoinedTies
import Derived.KernelRfl
namespace Go.Proofs.YtebmhadpkncgfaaDoor
/- THE CELL 'sum', in the pinned program and in every row, IS THE sha256 OF THE DUMP (.gsa) THAT YtebmhadpkncgfaaDoorProg.lean LOADS. Nothing in Lean hashes anything: it is a label: what it is worth is what the hold of that sum in a sandbox is worth. -/
noncomputable def Tryd.pinned : Pinned := { name := "ytebmhadpkncgfaadoor", sum := "4eb8b73a48d14e6d7015162fc188d974dc5a5ae281d3ead4040f3a7075261844", checked := Tryd.checked }
namespace Rows
def none {H : Type} : Left H := { results := [], args := [] }

/- WHAT THE LISTED PACKAGE-LEVEL VARIABLES READ AS WHEN THE CALL BEGINS. Each datum BY PROGRAM (the guide's laid-datum.mjs) off the statement by which the dump's own 'gosem.cut.vars' lays the variable. In a bare row this is a premise. The card (YtebmhadpkncgfaaDoorCards.lean) ties it to the program's text. -/
def laid_umbral_action_forms {H : Type} : DataW H := .agg [.agg [.lit (.int .u8 8), .lit (.int .u8 0), .lit (.int .u8 0), .lit (.int .u8 0), .lit (.int .u8 0)], .agg [.lit (.int .u8 1), .lit (.int .u8 8), .lit (.int .u8 0), .lit (.int .u8 0), .lit (.int .u8 0)], .agg [.lit (.int .u8 1), .lit (.int .u8 2), .lit (.int .u8 8), .lit (.int .u8 0), .lit (.int .u8 0)], .agg [.lit (.int .u8 1), .lit (.int .u8 2), .lit (.int .u8 6), .lit (.int .u8 8), .lit (.int .u8 0)], .agg [.lit (.int .u8 1), .lit (.int .u8 6), .lit (.int .u8 8), .lit (.int .u8 0), .lit (.int .u8 0)], .agg [.lit (.int .u8 1), .lit (.int .u8 6), .lit (.int .u8 2), .lit (.int .u8 8), .lit (.int .u8 0)], .agg [.lit (.int .u8 1), .lit (.int .u8 7), .lit (.int .u8 8), .lit (.int .u8 0), .lit (.int .u8 0)], .agg [.lit (.int .u8 1), .lit (.int .u8 8), .lit (.int .u8 0), .lit (.int .u8 0), .lit (.int .u8 0)], .agg [.lit (.int .u8 3), .lit (.int .u8 4), .lit (.int .u8 13), .lit (.int .u8 8), .lit (.int .u8 0)], .agg [.lit (.int .u8 13), .lit (.int .u8 8), .lit (.int .u8 0), .lit (.int .u8 0), .lit (.int .u8 0)], .agg [.lit (.int .u8 5), .lit (.int .u8 8), .lit (.int .u8 0), .lit (.int .u8 0), .lit (.int .u8 0)], .agg [.lit (.int .u8 5), .lit (.int .u8 9), .lit (.int .u8 11), .lit (.int .u8 8), .lit (.int .u8 0)], .agg [.lit (.int .u8 9), .lit (.int .u8 12), .lit (.int .u8 10), .lit (.int .u8 13), .lit (.int .u8 8)]]
def laid_umbral_action_spans {H : Type} : DataW H := .agg [.agg [.lit (.string []), .lit (.int .i64 0), .lit (.int .i64 0)], .agg [.lit (.string [112]), .lit (.int .i64 0), .lit (.int .i64 23)], .agg [.lit (.string [112]), .lit (.int .i64 0), .lit (.int .i64 23)], .agg [.lit (.string [112]), .lit (.int .i64 (-1)), .lit (.int .i64 23)], .agg [.lit (.string [112]), .lit (.int .i64 (-1)), .lit (.int .i64 23)], .agg [.lit (.string [105]), .lit (.int .i64 0), .lit (.int .i64 23)], .agg [.lit (.string [102]), .lit (.int .i64 0), .lit (.int .i64 7)], .agg [.lit (.string [115]), .lit (.int .i64 0), .lit (.int .i64 7)], .agg [.lit (.string [64]), .lit (.int .i64 0), .lit (.int .i64 65536)]]

/-- 'umbrallaw15.StatePlays': WHATEVER THE INPUT: true; the input reads as it did. -/
def statePlaysSpec : ChangeSpec := { name := "statePlays", fn := fun _ => fun
  | [d1, d2, d3] => { results := [.lit (.bool true)], args := [d1, d2, d3] }
  | _ => none }
def statePlaysRow : OpenClaim := { program := "ytebmhadpkncgfaadoor", sum := "4eb8b73a48d14e6d7015162fc188d974dc5a5ae281d3ead4040f3a7075261844", func := "umbral/umbrallaw15.StatePlays", spec := "statePlays", unfollowed := true, recurses := true, named := ["umbral/action.forms", "umbral/action.spans"], apart := false, laid := [("umbral/action.forms", laid_umbral_action_forms), ("umbral/action.spans", laid_umbral_action_spans)] }
def StatePlaysSaid : Prop := statePlaysRow.holds Tryd.pinned (OpenSpec.ofChange statePlaysSpec)

/-- ITS FALSE NEIGHBOUR: 'it returns false'. Refute it at one input. -/
def statePlaysWrong : ChangeSpec := { name := "statePlays", fn := fun _ => fun
  | [d1, d2, d3] => { results := [.lit (.bool false)], args := [d1, d2, d3] }
  | _ => none }
def StatePlaysWrongFalsely : Prop := statePlaysRow.holds Tryd.pinned (OpenSpec.ofChange statePlaysWrong)

/- THE SECOND FORM. 'bulk': how many values and letters a reading holds, each counted each time it is reached (what is shared counts as often as it is met; a slice's spare places count too). A statement '..UptoSaid' is the law's where the arguments, and the package variables that the reading takes, are together of bulk at most 1048576: NARROWER than '..Said'. Prove '..Said' where nothing that the law and all that it calls make is longer than what came in: it says more and counts as full. Else prove '..UptoSaid'. A law counts once. -/
mutual
def uptoBulk {H : Type} : DataW H → Nat
  | .lit (.string bytes) => bytes.length + 1
  | .lit _ => 1
  | .nil => 1
  | .ptr d => uptoBulk d + 1
  | .slice elems spare => uptoBulkAll elems + uptoBulkAll spare + 1
  | .agg parts => uptoBulkAll parts + 1
  | .iface _ d => uptoBulk d + 1
  | .map entries => uptoBulkEntries entries + 1
  | .held _ => 1
def uptoBulkAll {H : Type} : List (DataW H) → Nat
  | [] => 0
  | d :: r => uptoBulk d + uptoBulkAll r
def uptoBulkEntries {H : Type} : List (Lit × DataW H) → Nat
  | [] => 0
  | x :: r => uptoBulkEntry x + uptoBulkEntries r
def uptoBulkEntry {H : Type} : Lit × DataW H → Nat
  | (.string bytes, d) => bytes.length + uptoBulk d + 1
  | (_, d) => uptoBulk d + 1
 end
def uptoSmall : (H : Type) → List (DataW H) → Bool := fun _ ds => decide (uptoBulkAll ds ≤ 1048576)
def OpenSpec.upto (s : _root_.Go.ChangeSpec) : _root_.Go.OpenSpec := { _root_.Go.OpenSpec.ofChange s with cond := some uptoSmall }

/-- 'umbrallaw15.StatePlays', WHERE WHAT IT READS IS OF BULK AT MOST 1048576: true; the input reads as it did. -/
def statePlaysUptoRow : OpenClaim := { program := "ytebmhadpkncgfaadoor", sum := "4eb8b73a48d14e6d7015162fc188d974dc5a5ae281d3ead4040f3a7075261844", func := "umbral/umbrallaw15.StatePlays", spec := "statePlays", unfollowed := true, recurses := true, named := ["umbral/action.forms", "umbral/action.spans"], apart := false, laid := [("umbral/action.forms", laid_umbral_action_forms), ("umbral/action.spans", laid_umbral_action_spans)], narrowed := true }
def StatePlaysUptoSaid : Prop := statePlaysUptoRow.holds Tryd.pinned (OpenSpec.upto statePlaysSpec)

end Rows
end Go.Proofs.YtebmhadpkncgfaaDoor
