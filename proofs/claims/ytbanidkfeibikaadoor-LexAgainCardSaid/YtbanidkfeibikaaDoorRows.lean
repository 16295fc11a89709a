/-
  NARROWER THAN 'FOR EVERY INPUT', by the rows' own cells (each row's printed sentence says how): LexAll: laid · LexNext: laid · LexNames: laid · LexAgain: laid.
  DERIVED. THE GIVEN ROWS OF THIS SEAT. 4 by the template 'for every input the law returns true; each argument reads behind the call as it read before'; 0 by the template 'total and deterministic' (their statements: YtbanidkfeibikaaDoorTotals.lean).
  GIVEN WITH THE SEED: the statements are not yours to turn. If you find one false, say at which input.
  Laid BY PROGRAM, IN A SANDBOX (cutbox-rows.mjs): the forced cells as the released guide's own fill.sh prints them over the translation 09cc7073ead8ccc2… (all of the seat's roots in one cut). By AI agents, Wed Nov 11 2026. No macro, syntax, notation, axiom, sorry.
-/
import Derived.Test.YtbanidkfeibikaaDoorChecked
import GoSem.Claim
import GoSem.ClaimJoined
import GoSem.ClaimMapViews
import Derived.JoinedTies
import Derived.KernelRfl
namespace Go.Proofs.YtbanidkfeibikaaDoor
/- THE CELL 'sum', in the pinned program and in every row, IS THE sha256 OF THE DUMP (.gsa) THAT YtbanidkfeibikaaDoorProg.lean LOADS. Nothing in Lean hashes anything: it is a label: what it is worth is what the hold of that sum in a sandbox is worth. -/
noncomputable def Tryd.pinned : Pinned := { name := "ytbanidkfeibikaadoor", sum := "09cc7073ead8ccc277073df8396df25b58e472d3cd6b14d1dc35cea12efd0cd8", checked := Tryd.checked }
namespace Rows
def none {H : Type} : Left H := { results := [], args := [] }

/- WHAT THE LISTED PACKAGE-LEVEL VARIABLES READ AS WHEN THE CALL BEGINS. Each datum BY PROGRAM (the guide's laid-datum.mjs) off the statement by which the dump's own 'gosem.cut.vars' lays the variable. In a bare row this is a premise. The card (YtbanidkfeibikaaDoorCards.lean) ties it to the program's text. -/
def laid_umbral_lex_pairs {H : Type} : DataW H := .agg [.lit (.string [45, 62]), .lit (.string [61, 61]), .lit (.string [33, 61]), .lit (.string [62, 61])]
def laid_umbral_lex_keys {H : Type} : DataW H := .agg [.lit (.string [115, 116, 114, 117, 99, 116]), .lit (.string [105, 110, 116]), .lit (.string [118, 111, 105, 100]), .lit (.string [110, 117, 108, 108]), .lit (.string [110, 101, 119]), .lit (.string [102, 114, 101, 101]), .lit (.string [105, 102]), .lit (.string [101, 108, 115, 101]), .lit (.string [119, 104, 105, 108, 101]), .lit (.string [105, 110, 112, 117, 116])]

/-- 'umbrallaw04.LexAll': WHATEVER THE INPUT: true; the input reads as it did. -/
def lexAllSpec : ChangeSpec := { name := "lexAll", fn := fun _ => fun
  | [d] => { results := [.lit (.bool true)], args := [d] }
  | _ => none }
def lexAllRow : OpenClaim := { program := "ytbanidkfeibikaadoor", sum := "09cc7073ead8ccc277073df8396df25b58e472d3cd6b14d1dc35cea12efd0cd8", func := "umbral/umbrallaw04.LexAll", spec := "lexAll", inPlace := ["internal/bytealg.IndexByteString"], named := ["umbral/lex.keys", "umbral/lex.pairs"], apart := false, laid := [("umbral/lex.pairs", laid_umbral_lex_pairs), ("umbral/lex.keys", laid_umbral_lex_keys)] }
def LexAllSaid : Prop := lexAllRow.holds Tryd.pinned (OpenSpec.ofChange lexAllSpec)

/-- ITS FALSE NEIGHBOUR: 'it returns false'. Refute it at one input. -/
def lexAllWrong : ChangeSpec := { name := "lexAll", fn := fun _ => fun
  | [d] => { results := [.lit (.bool false)], args := [d] }
  | _ => none }
def LexAllWrongFalsely : Prop := lexAllRow.holds Tryd.pinned (OpenSpec.ofChange lexAllWrong)

/-- 'umbrallaw04.LexNext': WHATEVER THE INPUT: true; the input reads as it did. -/
def lexNextSpec : ChangeSpec := { name := "lexNext", fn := fun _ => fun
  | [d1, d2] => { results := [.lit (.bool true)], args := [d1, d2] }
  | _ => none }
def lexNextRow : OpenClaim := { program := "ytbanidkfeibikaadoor", sum := "09cc7073ead8ccc277073df8396df25b58e472d3cd6b14d1dc35cea12efd0cd8", func := "umbral/umbrallaw04.LexNext", spec := "lexNext", inPlace := ["internal/bytealg.IndexByteString"], named := ["umbral/lex.keys", "umbral/lex.pairs"], apart := false, laid := [("umbral/lex.pairs", laid_umbral_lex_pairs), ("umbral/lex.keys", laid_umbral_lex_keys)] }
def LexNextSaid : Prop := lexNextRow.holds Tryd.pinned (OpenSpec.ofChange lexNextSpec)

/-- ITS FALSE NEIGHBOUR: 'it returns false'. Refute it at one input. -/
def lexNextWrong : ChangeSpec := { name := "lexNext", fn := fun _ => fun
  | [d1, d2] => { results := [.lit (.bool false)], args := [d1, d2] }
  | _ => none }
def LexNextWrongFalsely : Prop := lexNextRow.holds Tryd.pinned (OpenSpec.ofChange lexNextWrong)

/-- 'umbrallaw04.LexNames': WHATEVER THE INPUT: true; the input reads as it did. -/
def lexNamesSpec : ChangeSpec := { name := "lexNames", fn := fun _ => fun
  | [d] => { results := [.lit (.bool true)], args := [d] }
  | _ => none }
def lexNamesRow : OpenClaim := { program := "ytbanidkfeibikaadoor", sum := "09cc7073ead8ccc277073df8396df25b58e472d3cd6b14d1dc35cea12efd0cd8", func := "umbral/umbrallaw04.LexNames", spec := "lexNames", inPlace := ["internal/bytealg.IndexByteString"], named := ["umbral/lex.keys", "umbral/lex.pairs"], apart := false, laid := [("umbral/lex.pairs", laid_umbral_lex_pairs), ("umbral/lex.keys", laid_umbral_lex_keys)] }
def LexNamesSaid : Prop := lexNamesRow.holds Tryd.pinned (OpenSpec.ofChange lexNamesSpec)

/-- ITS FALSE NEIGHBOUR: 'it returns false'. Refute it at one input. -/
def lexNamesWrong : ChangeSpec := { name := "lexNames", fn := fun _ => fun
  | [d] => { results := [.lit (.bool false)], args := [d] }
  | _ => none }
def LexNamesWrongFalsely : Prop := lexNamesRow.holds Tryd.pinned (OpenSpec.ofChange lexNamesWrong)

/-- 'umbrallaw04.LexAgain': WHATEVER THE INPUT: true; the input reads as it did. -/
def lexAgainSpec : ChangeSpec := { name := "lexAgain", fn := fun _ => fun
  | [d] => { results := [.lit (.bool true)], args := [d] }
  | _ => none }
def lexAgainRow : OpenClaim := { program := "ytbanidkfeibikaadoor", sum := "09cc7073ead8ccc277073df8396df25b58e472d3cd6b14d1dc35cea12efd0cd8", func := "umbral/umbrallaw04.LexAgain", spec := "lexAgain", inPlace := ["internal/bytealg.IndexByteString"], named := ["umbral/lex.keys", "umbral/lex.pairs"], apart := false, laid := [("umbral/lex.pairs", laid_umbral_lex_pairs), ("umbral/lex.keys", laid_umbral_lex_keys)] }
def LexAgainSaid : Prop := lexAgainRow.holds Tryd.pinned (OpenSpec.ofChange lexAgainSpec)

/-- ITS FALSE NEIGHBOUR: 'it returns false'. Refute it at one input. -/
def lexAgainWrong : ChangeSpec := { name := "lexAgain", fn := fun _ => fun
  | [d] => { results := [.lit (.bool false)], args := [d] }
  | _ => none }
def LexAgainWrongFalsely : Prop := lexAgainRow.holds Tryd.pinned (OpenSpec.ofChange lexAgainWrong)

/- THE SECOND FORM. 'bulk': how many values and letters a reading holds, each counted each time it is reached (what is shared counts as often as it is met; a slice's spare places count too). A statement '..UptoSaid' is the law's where the arguments, and the package variables that the reading takes, are together of bulk at most 1048576: NARROWER than '..Said'. Prove '..Said' where nothing that the law and all that it calls make is longer than what came in: it says more and counts as full. Else prove '..UptoSaid'. A law counts once. -/
mutual
def uptoBulk {H : Type} : DataW H → Nat
  | .lit (.string bytes) => bytes.length + 1
  | .lit _ => 1
  | .nil => 1
  | .ptr d => uptoBulk d + 1
  | .slice elems spare => uptoBulkAll elems + uptoBulkAll spare + 1
  | .agg parts => uptoBulkAll parts + 1
  | .iface _ d => uptoBulk d + 1
  | .map entries => uptoBulkEntries entries + 1
  | .held _ => 1
def uptoBulkAll {H : Type} : List (DataW H) → Nat
  | [] => 0
  | d :: r => uptoBulk d + uptoBulkAll r
def uptoBulkEntries {H : Type} : List (Lit × DataW H) → Nat
  | [] => 0
  | x :: r => uptoBulkEntry x + uptoBulkEntries r
def uptoBulkEntry {H : Type} : Lit × DataW H → Nat
  | (.string bytes, d) => bytes.length + uptoBulk d + 1
  | (_, d) => uptoBulk d + 1
 end
def uptoSmall : (H : Type) → List (DataW H) → Bool := fun _ ds => decide (uptoBulkAll ds ≤ 1048576)
def OpenSpec.upto (s : _root_.Go.ChangeSpec) : _root_.Go.OpenSpec := { _root_.Go.OpenSpec.ofChange s with cond := some uptoSmall }

/-- 'umbrallaw04.LexAll', WHERE WHAT IT READS IS OF BULK AT MOST 1048576: true; the input reads as it did. -/
def lexAllUptoRow : OpenClaim := { program := "ytbanidkfeibikaadoor", sum := "09cc7073ead8ccc277073df8396df25b58e472d3cd6b14d1dc35cea12efd0cd8", func := "umbral/umbrallaw04.LexAll", spec := "lexAll", inPlace := ["internal/bytealg.IndexByteString"], named := ["umbral/lex.keys", "umbral/lex.pairs"], apart := false, laid := [("umbral/lex.pairs", laid_umbral_lex_pairs), ("umbral/lex.keys", laid_umbral_lex_keys)], narrowed := true }
def LexAllUptoSaid : Prop := lexAllUptoRow.holds Tryd.pinned (OpenSpec.upto lexAllSpec)

/-- 'umbrallaw04.LexNext', WHERE WHAT IT READS IS OF BULK AT MOST 1048576: true; the input reads as it did. -/
def lexNextUptoRow : OpenClaim := { program := "ytbanidkfeibikaadoor", sum := "09cc7073ead8ccc277073df8396df25b58e472d3cd6b14d1dc35cea12efd0cd8", func := "umbral/umbrallaw04.LexNext", spec := "lexNext", inPlace := ["internal/bytealg.IndexByteString"], named := ["umbral/lex.keys", "umbral/lex.pairs"], apart := false, laid := [("umbral/lex.pairs", laid_umbral_lex_pairs), ("umbral/lex.keys", laid_umbral_lex_keys)], narrowed := true }
def LexNextUptoSaid : Prop := lexNextUptoRow.holds Tryd.pinned (OpenSpec.upto lexNextSpec)

/-- 'umbrallaw04.LexNames', WHERE WHAT IT READS IS OF BULK AT MOST 1048576: true; the input reads as it did. -/
def lexNamesUptoRow : OpenClaim := { program := "ytbanidkfeibikaadoor", sum := "09cc7073ead8ccc277073df8396df25b58e472d3cd6b14d1dc35cea12efd0cd8", func := "umbral/umbrallaw04.LexNames", spec := "lexNames", inPlace := ["internal/bytealg.IndexByteString"], named := ["umbral/lex.keys", "umbral/lex.pairs"], apart := false, laid := [("umbral/lex.pairs", laid_umbral_lex_pairs), ("umbral/lex.keys", laid_umbral_lex_keys)], narrowed := true }
def LexNamesUptoSaid : Prop := lexNamesUptoRow.holds Tryd.pinned (OpenSpec.upto lexNamesSpec)

/-- 'umbrallaw04.LexAgain', WHERE WHAT IT READS IS OF BULK AT MOST 1048576: true; the input reads as it did. -/
def lexAgainUptoRow : OpenClaim := { program := "ytbanidkfeibikaadoor", sum := "09cc7073ead8ccc277073df8396df25b58e472d3cd6b14d1dc35cea12efd0cd8", func := "umbral/umbrallaw04.LexAgain", spec := "lexAgain", inPlace := ["internal/bytealg.IndexByteString"], named := ["umbral/lex.keys", "umbral/lex.pairs"], apart := false, laid := [("umbral/lex.pairs", laid_umbral_lex_pairs), ("umbral/lex.keys", laid_umbral_lex_keys)], narrowed := true }
def LexAgainUptoSaid : Prop := lexAgainUptoRow.holds Tryd.pinned (OpenSpec.upto lexAgainSpec)

end Rows
end Go.Proofs.YtbanidkfeibikaaDoor
