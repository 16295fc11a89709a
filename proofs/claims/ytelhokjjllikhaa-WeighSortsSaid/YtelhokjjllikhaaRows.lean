/-
  No cell of these rows narrows 'for every input' (looked for: loops, veiled, ifaces, maps, wideKeys, modest, calm, conditions, laid).
  DERIVED. THE GIVEN ROWS OF THIS SEAT. 4 by the template 'for every input the law returns true; each argument reads behind the call as it read before'; 0 by the template 'total and deterministic' (their statements: YtelhokjjllikhaaTotals.lean).
  GIVEN WITH THE SEED: the statements are not yours to turn. If you find one false, say at which input.
  Laid BY PROGRAM, IN A SANDBOX (cutbox-rows.mjs): the forced cells as the released guide's own fill.sh prints them over the translation a0ae2dac0f1e6f41… (all of the seat's roots in one cut). By AI agents, Wed Nov 11 2026. No macro, syntax, notation, axiom, sorry.
-/
import Derived.Test.YtelhokjjllikhaaChecked
import GoSem.Claim
import GoSem.ClaimJoined
import GoSem.ClaimMapViews
import Derived.JoinedTies
import Derived.KernelRfl
namespace Go.Proofs.Ytelhokjjllikhaa
/- THE CELL 'sum', in the pinned program and in every row, IS THE sha256 OF THE DUMP (.gsa) THAT YtelhokjjllikhaaProg.lean LOADS. Nothing in Lean hashes anything: it is a label: what it is worth is what the hold of that sum in a sandbox is worth. -/
noncomputable def Try.pinned : Pinned := { name := "ytelhokjjllikhaa", sum := "a0ae2dac0f1e6f419f4830e1a79d3d5dcf5739c2c90579986bc9c362eae816b8", checked := Try.checked }
namespace Rows
def none {H : Type} : Left H := { results := [], args := [] }

/-- 'umbrallaw03.WeighSorts': WHATEVER THE INPUT: true; the input reads as it did. -/
def weighSortsSpec : ChangeSpec := { name := "weighSorts", fn := fun _ => fun
  | [d1, d2] => { results := [.lit (.bool true)], args := [d1, d2] }
  | _ => none }
def weighSortsRow : OpenClaim := { program := "ytelhokjjllikhaa", sum := "a0ae2dac0f1e6f419f4830e1a79d3d5dcf5739c2c90579986bc9c362eae816b8", func := "umbral/umbrallaw03.WeighSorts", spec := "weighSorts", inPlace := ["math.Float64bits", "internal/reflectlite.ValueOf", "internal/reflectlite.Swapper", "(internal/reflectlite.Value).Len"], unfollowed := true, recurses := true, apart := false }
def WeighSortsSaid : Prop := weighSortsRow.holds Try.pinned (OpenSpec.ofChange weighSortsSpec)

/-- ITS FALSE NEIGHBOUR: 'it returns false'. Refute it at one input. -/
def weighSortsWrong : ChangeSpec := { name := "weighSorts", fn := fun _ => fun
  | [d1, d2] => { results := [.lit (.bool false)], args := [d1, d2] }
  | _ => none }
def WeighSortsWrongFalsely : Prop := weighSortsRow.holds Try.pinned (OpenSpec.ofChange weighSortsWrong)

/-- 'umbrallaw03.WeighShares': WHATEVER THE INPUT: true; the input reads as it did. -/
def weighSharesSpec : ChangeSpec := { name := "weighShares", fn := fun _ => fun
  | [d1, d2] => { results := [.lit (.bool true)], args := [d1, d2] }
  | _ => none }
def weighSharesRow : OpenClaim := { program := "ytelhokjjllikhaa", sum := "a0ae2dac0f1e6f419f4830e1a79d3d5dcf5739c2c90579986bc9c362eae816b8", func := "umbral/umbrallaw03.WeighShares", spec := "weighShares", inPlace := ["math.Float64bits"], apart := false }
def WeighSharesSaid : Prop := weighSharesRow.holds Try.pinned (OpenSpec.ofChange weighSharesSpec)

/-- ITS FALSE NEIGHBOUR: 'it returns false'. Refute it at one input. -/
def weighSharesWrong : ChangeSpec := { name := "weighShares", fn := fun _ => fun
  | [d1, d2] => { results := [.lit (.bool false)], args := [d1, d2] }
  | _ => none }
def WeighSharesWrongFalsely : Prop := weighSharesRow.holds Try.pinned (OpenSpec.ofChange weighSharesWrong)

/-- 'umbrallaw03.WeighOrders': WHATEVER THE INPUT: true; the input reads as it did. -/
def weighOrdersSpec : ChangeSpec := { name := "weighOrders", fn := fun _ => fun
  | [d1, d2, d3] => { results := [.lit (.bool true)], args := [d1, d2, d3] }
  | _ => none }
def weighOrdersRow : OpenClaim := { program := "ytelhokjjllikhaa", sum := "a0ae2dac0f1e6f419f4830e1a79d3d5dcf5739c2c90579986bc9c362eae816b8", func := "umbral/umbrallaw03.WeighOrders", spec := "weighOrders", inPlace := ["math.Float64bits"], apart := false }
def WeighOrdersSaid : Prop := weighOrdersRow.holds Try.pinned (OpenSpec.ofChange weighOrdersSpec)

/-- ITS FALSE NEIGHBOUR: 'it returns false'. Refute it at one input. -/
def weighOrdersWrong : ChangeSpec := { name := "weighOrders", fn := fun _ => fun
  | [d1, d2, d3] => { results := [.lit (.bool false)], args := [d1, d2, d3] }
  | _ => none }
def WeighOrdersWrongFalsely : Prop := weighOrdersRow.holds Try.pinned (OpenSpec.ofChange weighOrdersWrong)

/-- 'umbrallaw03.WeighRanks': WHATEVER THE INPUT: true; the input reads as it did. -/
def weighRanksSpec : ChangeSpec := { name := "weighRanks", fn := fun _ => fun
  | [d] => { results := [.lit (.bool true)], args := [d] }
  | _ => none }
def weighRanksRow : OpenClaim := { program := "ytelhokjjllikhaa", sum := "a0ae2dac0f1e6f419f4830e1a79d3d5dcf5739c2c90579986bc9c362eae816b8", func := "umbral/umbrallaw03.WeighRanks", spec := "weighRanks", inPlace := ["math.Float64bits", "internal/reflectlite.ValueOf", "internal/reflectlite.Swapper", "(internal/reflectlite.Value).Len"], unfollowed := true, recurses := true, apart := false }
def WeighRanksSaid : Prop := weighRanksRow.holds Try.pinned (OpenSpec.ofChange weighRanksSpec)

/-- ITS FALSE NEIGHBOUR: 'it returns false'. Refute it at one input. -/
def weighRanksWrong : ChangeSpec := { name := "weighRanks", fn := fun _ => fun
  | [d] => { results := [.lit (.bool false)], args := [d] }
  | _ => none }
def WeighRanksWrongFalsely : Prop := weighRanksRow.holds Try.pinned (OpenSpec.ofChange weighRanksWrong)

/- THE SECOND FORM. 'bulk': how many values and letters a reading holds, each counted each time it is reached (what is shared counts as often as it is met; a slice's spare places count too). A statement '..UptoSaid' is the law's where the arguments, and the package variables that the reading takes, are together of bulk at most 1048576: NARROWER than '..Said'. Prove '..Said' where nothing that the law and all that it calls make is longer than what came in: it says more and counts as full. Else prove '..UptoSaid'. A law counts once. -/
mutual
def uptoBulk {H : Type} : DataW H → Nat
  | .lit (.string bytes) => bytes.length + 1
  | .lit _ => 1
  | .nil => 1
  | .ptr d => uptoBulk d + 1
  | .slice elems spare => uptoBulkAll elems + uptoBulkAll spare + 1
  | .agg parts => uptoBulkAll parts + 1
  | .iface _ d => uptoBulk d + 1
  | .map entries => uptoBulkEntries entries + 1
  | .held _ => 1
def uptoBulkAll {H : Type} : List (DataW H) → Nat
  | [] => 0
  | d :: r => uptoBulk d + uptoBulkAll r
def uptoBulkEntries {H : Type} : List (Lit × DataW H) → Nat
  | [] => 0
  | x :: r => uptoBulkEntry x + uptoBulkEntries r
def uptoBulkEntry {H : Type} : Lit × DataW H → Nat
  | (.string bytes, d) => bytes.length + uptoBulk d + 1
  | (_, d) => uptoBulk d + 1
 end
def uptoSmall : (H : Type) → List (DataW H) → Bool := fun _ ds => decide (uptoBulkAll ds ≤ 1048576)
def OpenSpec.upto (s : _root_.Go.ChangeSpec) : _root_.Go.OpenSpec := { _root_.Go.OpenSpec.ofChange s with cond := some uptoSmall }

/-- 'umbrallaw03.WeighSorts', WHERE WHAT IT READS IS OF BULK AT MOST 1048576: true; the input reads as it did. -/
def weighSortsUptoRow : OpenClaim := { program := "ytelhokjjllikhaa", sum := "a0ae2dac0f1e6f419f4830e1a79d3d5dcf5739c2c90579986bc9c362eae816b8", func := "umbral/umbrallaw03.WeighSorts", spec := "weighSorts", inPlace := ["math.Float64bits", "internal/reflectlite.ValueOf", "internal/reflectlite.Swapper", "(internal/reflectlite.Value).Len"], unfollowed := true, recurses := true, apart := false, narrowed := true }
def WeighSortsUptoSaid : Prop := weighSortsUptoRow.holds Try.pinned (OpenSpec.upto weighSortsSpec)

/-- 'umbrallaw03.WeighShares', WHERE WHAT IT READS IS OF BULK AT MOST 1048576: true; the input reads as it did. -/
def weighSharesUptoRow : OpenClaim := { program := "ytelhokjjllikhaa", sum := "a0ae2dac0f1e6f419f4830e1a79d3d5dcf5739c2c90579986bc9c362eae816b8", func := "umbral/umbrallaw03.WeighShares", spec := "weighShares", inPlace := ["math.Float64bits"], apart := false, narrowed := true }
def WeighSharesUptoSaid : Prop := weighSharesUptoRow.holds Try.pinned (OpenSpec.upto weighSharesSpec)

/-- 'umbrallaw03.WeighOrders', WHERE WHAT IT READS IS OF BULK AT MOST 1048576: true; the input reads as it did. -/
def weighOrdersUptoRow : OpenClaim := { program := "ytelhokjjllikhaa", sum := "a0ae2dac0f1e6f419f4830e1a79d3d5dcf5739c2c90579986bc9c362eae816b8", func := "umbral/umbrallaw03.WeighOrders", spec := "weighOrders", inPlace := ["math.Float64bits"], apart := false, narrowed := true }
def WeighOrdersUptoSaid : Prop := weighOrdersUptoRow.holds Try.pinned (OpenSpec.upto weighOrdersSpec)

/-- 'umbrallaw03.WeighRanks', WHERE WHAT IT READS IS OF BULK AT MOST 1048576: true; the input reads as it did. -/
def weighRanksUptoRow : OpenClaim := { program := "ytelhokjjllikhaa", sum := "a0ae2dac0f1e6f419f4830e1a79d3d5dcf5739c2c90579986bc9c362eae816b8", func := "umbral/umbrallaw03.WeighRanks", spec := "weighRanks", inPlace := ["math.Float64bits", "internal/reflectlite.ValueOf", "internal/reflectlite.Swapper", "(internal/reflectlite.Value).Len"], unfollowed := true, recurses := true, apart := false, narrowed := true }
def WeighRanksUptoSaid : Prop := weighRanksUptoRow.holds Try.pinned (OpenSpec.upto weighRanksSpec)

end Rows
end Go.Proofs.Ytelhokjjllikhaa
