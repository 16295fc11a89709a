/-
  DERIVED. GIVEN WITH THE SEED: THE CARDS: each row of YtdlchhimkelinaaGreatDoorRows.lean that lists a variable, with what it lists TIED to the program's text (the seventh form; the later family's looks); each row that meets fmt, with fmt's text TOLD by the authors' own Lean function (tested against real Go, not proved from fmt's source: count such statements apart). THE CARD IS WHAT COUNTS. Prove the row's statement (the work); the ties are given (YtdlchhimkelinaaGreatDoorTie.lean); close each card by the builder's one call (the guide's Derived/Test/ToyasCard.lean, 'card_holds'). Laid BY PROGRAM, IN A SANDBOX (cutbox-door.mjs). By AI agents, Wed Nov 11 2026. No macro, syntax, notation, axiom, sorry.
-/
import Derived.Test.YtdlchhimkelinaaGreatDoorRows
import GoSem.ClaimSeven
namespace Go.Proofs.YtdlchhimkelinaaGreatDoor
namespace Rows

/-- THE TIED CARD OF 'umbrallaw07.PrintBack'. -/
def printBackCard : Claim7 := { stood := { row := printBackRow, standIns := [], harness := (true, "d074c110b1c0463e2c582abf0dbbead16f13c0bd870025be99d6efc470236b58"), looks := true }, kinds := [], alts := [], laidByText := true, laidKinds := [.data, .data, .data, .data, .data, .data], laidTests := true, laidLooks := .later }
def PrintBackCardSaid : Prop := Claim7.holds Tryz.pinned (.plain (OpenSpec.ofChange printBackSpec)) printBackCard

/-- THE TIED CARD OF 'umbrallaw07.PrintReads'. -/
def printReadsCard : Claim7 := { stood := { row := printReadsRow, standIns := [], harness := (true, "d074c110b1c0463e2c582abf0dbbead16f13c0bd870025be99d6efc470236b58"), looks := true }, kinds := [], alts := [], laidByText := true, laidKinds := [.data, .data, .data, .data, .data, .data], laidTests := true, laidLooks := .later }
def PrintReadsCardSaid : Prop := Claim7.holds Tryz.pinned (.plain (OpenSpec.ofChange printReadsSpec)) printReadsCard

/-- THE TIED CARD OF 'umbrallaw07.PrintParses'. -/
def printParsesCard : Claim7 := { stood := { row := printParsesRow, standIns := [], harness := (true, "d074c110b1c0463e2c582abf0dbbead16f13c0bd870025be99d6efc470236b58"), looks := true }, kinds := [], alts := [], laidByText := true, laidKinds := [.data, .data, .data, .data, .data, .data], laidTests := true, laidLooks := .later }
def PrintParsesCardSaid : Prop := Claim7.holds Tryz.pinned (.plain (OpenSpec.ofChange printParsesSpec)) printParsesCard

/-- THE SECOND FORM's CARD OF 'umbrallaw07.PrintBack'. -/
def printBackUptoCard : Claim7 := { stood := { row := printBackUptoRow, standIns := [], harness := (true, "d074c110b1c0463e2c582abf0dbbead16f13c0bd870025be99d6efc470236b58"), looks := true }, kinds := [], alts := [], laidByText := true, laidKinds := [.data, .data, .data, .data, .data, .data], laidTests := true, laidLooks := .later }
def PrintBackUptoCardSaid : Prop := Claim7.holds Tryz.pinned (.plain (OpenSpec.upto printBackSpec)) printBackUptoCard

/-- THE SECOND FORM's CARD OF 'umbrallaw07.PrintReads'. -/
def printReadsUptoCard : Claim7 := { stood := { row := printReadsUptoRow, standIns := [], harness := (true, "d074c110b1c0463e2c582abf0dbbead16f13c0bd870025be99d6efc470236b58"), looks := true }, kinds := [], alts := [], laidByText := true, laidKinds := [.data, .data, .data, .data, .data, .data], laidTests := true, laidLooks := .later }
def PrintReadsUptoCardSaid : Prop := Claim7.holds Tryz.pinned (.plain (OpenSpec.upto printReadsSpec)) printReadsUptoCard

/-- THE SECOND FORM's CARD OF 'umbrallaw07.PrintParses'. -/
def printParsesUptoCard : Claim7 := { stood := { row := printParsesUptoRow, standIns := [], harness := (true, "d074c110b1c0463e2c582abf0dbbead16f13c0bd870025be99d6efc470236b58"), looks := true }, kinds := [], alts := [], laidByText := true, laidKinds := [.data, .data, .data, .data, .data, .data], laidTests := true, laidLooks := .later }
def PrintParsesUptoCardSaid : Prop := Claim7.holds Tryz.pinned (.plain (OpenSpec.upto printParsesSpec)) printParsesUptoCard
end Rows
end Go.Proofs.YtdlchhimkelinaaGreatDoor
