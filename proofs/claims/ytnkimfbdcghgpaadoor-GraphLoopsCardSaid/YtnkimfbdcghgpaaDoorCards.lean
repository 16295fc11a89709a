/-
  DERIVED. GIVEN WITH THE SEED: THE CARDS: each row of YtnkimfbdcghgpaaDoorRows.lean that lists a variable, with what it lists TIED to the program's text (the seventh form; the later family's looks); each row that meets fmt, with fmt's text TOLD by the authors' own Lean function (tested against real Go, not proved from fmt's source: count such statements apart). THE CARD IS WHAT COUNTS. Prove the row's statement (the work); the ties are given (YtnkimfbdcghgpaaDoorTie.lean); close each card by the builder's one call (the guide's Derived/Test/ToyasCard.lean, 'card_holds'). Laid BY PROGRAM, IN A SANDBOX (cutbox-door.mjs). By AI agents, Wed Nov 11 2026. No macro, syntax, notation, axiom, sorry.
-/
import Derived.Test.YtnkimfbdcghgpaaDoorRows
import GoSem.ClaimSeven
namespace Go.Proofs.YtnkimfbdcghgpaaDoor
namespace Rows

/-- THE TIED CARD OF 'umbrallaw12.GraphLoops'. -/
def graphLoopsCard : Claim7 := { stood := { row := graphLoopsRow, standIns := [], harness := (true, "5f4e7f1861784ec89b63b69b4e834297a8b930fe99a7adcf0fdb7bad872770b0"), looks := false }, kinds := [], alts := [], laidByText := true, laidKinds := [.data, .data, .data, .data, .data, .data, .data, .data], laidTests := true, laidLooks := .later }
def GraphLoopsCardSaid : Prop := Claim7.holds Tryd.pinned (.plain (OpenSpec.ofChange graphLoopsSpec)) graphLoopsCard

/-- THE SECOND FORM's CARD OF 'umbrallaw12.GraphLoops'. -/
def graphLoopsUptoCard : Claim7 := { stood := { row := graphLoopsUptoRow, standIns := [], harness := (true, "5f4e7f1861784ec89b63b69b4e834297a8b930fe99a7adcf0fdb7bad872770b0"), looks := false }, kinds := [], alts := [], laidByText := true, laidKinds := [.data, .data, .data, .data, .data, .data, .data, .data], laidTests := true, laidLooks := .later }
def GraphLoopsUptoCardSaid : Prop := Claim7.holds Tryd.pinned (.plain (OpenSpec.upto graphLoopsSpec)) graphLoopsUptoCard
end Rows
end Go.Proofs.YtnkimfbdcghgpaaDoor
