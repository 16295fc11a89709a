/-
  DERIVED. GIVEN WITH THE SEED: THE CARDS: each row of YtcehbcnloiooaaaGreatDoorRows.lean that lists a variable, with what it lists TIED to the program's text (the seventh form; the later family's looks); each row that meets fmt, with fmt's text TOLD by the authors' own Lean function (tested against real Go, not proved from fmt's source: count such statements apart). THE CARD IS WHAT COUNTS. Prove the row's statement (the work); the ties are given (YtcehbcnloiooaaaGreatDoorTie.lean); close each card by the builder's one call (the guide's Derived/Test/ToyasCard.lean, 'card_holds'). Laid BY PROGRAM, IN A SANDBOX (cutbox-door.mjs). By AI agents, Wed Nov 11 2026. No macro, syntax, notation, axiom, sorry.
-/
import Derived.Test.YtcehbcnloiooaaaGreatDoorRows
import GoSem.ClaimSeven
namespace Go.Proofs.YtcehbcnloiooaaaGreatDoor
namespace Rows

/-- THE TIED CARD OF 'umbrallaw09.CheckTrees'. -/
def checkTreesCard : Claim7 := { stood := { row := checkTreesRow, standIns := [], harness := (true, "8644a09a518b2ab4023b322dc8522c2d5a7426271d3510eebe820a0d616a6a7f"), looks := false }, kinds := [], alts := [], laidByText := true, laidKinds := [.data, .data, .data, .data, .data, .data], laidTests := true, laidLooks := .later }
def CheckTreesCardSaid : Prop := Claim7.holds Tryz.pinned (.plain (OpenSpec.ofChange checkTreesSpec)) checkTreesCard

/-- THE TIED CARD OF 'umbrallaw09.CheckTexts'. -/
def checkTextsCard : Claim7 := { stood := { row := checkTextsRow, standIns := [], harness := (true, "8644a09a518b2ab4023b322dc8522c2d5a7426271d3510eebe820a0d616a6a7f"), looks := false }, kinds := [], alts := [], laidByText := true, laidKinds := [.data, .data, .data, .data, .data, .data], laidTests := true, laidLooks := .later }
def CheckTextsCardSaid : Prop := Claim7.holds Tryz.pinned (.plain (OpenSpec.ofChange checkTextsSpec)) checkTextsCard

/-- THE TIED CARD OF 'umbrallaw09.CheckPaths'. -/
def checkPathsCard : Claim7 := { stood := { row := checkPathsRow, standIns := [], harness := (true, "8644a09a518b2ab4023b322dc8522c2d5a7426271d3510eebe820a0d616a6a7f"), looks := false }, kinds := [], alts := [], laidByText := true, laidKinds := [.data, .data, .data, .data, .data, .data], laidTests := true, laidLooks := .later }
def CheckPathsCardSaid : Prop := Claim7.holds Tryz.pinned (.plain (OpenSpec.ofChange checkPathsSpec)) checkPathsCard

/-- THE TIED CARD OF 'umbrallaw09.CheckMore'. -/
def checkMoreCard : Claim7 := { stood := { row := checkMoreRow, standIns := [], harness := (true, "8644a09a518b2ab4023b322dc8522c2d5a7426271d3510eebe820a0d616a6a7f"), looks := false }, kinds := [], alts := [], laidByText := true, laidKinds := [.data, .data, .data, .data, .data, .data], laidTests := true, laidLooks := .later }
def CheckMoreCardSaid : Prop := Claim7.holds Tryz.pinned (.plain (OpenSpec.ofChange checkMoreSpec)) checkMoreCard

/-- THE SECOND FORM's CARD OF 'umbrallaw09.CheckTrees'. -/
def checkTreesUptoCard : Claim7 := { stood := { row := checkTreesUptoRow, standIns := [], harness := (true, "8644a09a518b2ab4023b322dc8522c2d5a7426271d3510eebe820a0d616a6a7f"), looks := false }, kinds := [], alts := [], laidByText := true, laidKinds := [.data, .data, .data, .data, .data, .data], laidTests := true, laidLooks := .later }
def CheckTreesUptoCardSaid : Prop := Claim7.holds Tryz.pinned (.plain (OpenSpec.upto checkTreesSpec)) checkTreesUptoCard

/-- THE SECOND FORM's CARD OF 'umbrallaw09.CheckTexts'. -/
def checkTextsUptoCard : Claim7 := { stood := { row := checkTextsUptoRow, standIns := [], harness := (true, "8644a09a518b2ab4023b322dc8522c2d5a7426271d3510eebe820a0d616a6a7f"), looks := false }, kinds := [], alts := [], laidByText := true, laidKinds := [.data, .data, .data, .data, .data, .data], laidTests := true, laidLooks := .later }
def CheckTextsUptoCardSaid : Prop := Claim7.holds Tryz.pinned (.plain (OpenSpec.upto checkTextsSpec)) checkTextsUptoCard

/-- THE SECOND FORM's CARD OF 'umbrallaw09.CheckPaths'. -/
def checkPathsUptoCard : Claim7 := { stood := { row := checkPathsUptoRow, standIns := [], harness := (true, "8644a09a518b2ab4023b322dc8522c2d5a7426271d3510eebe820a0d616a6a7f"), looks := false }, kinds := [], alts := [], laidByText := true, laidKinds := [.data, .data, .data, .data, .data, .data], laidTests := true, laidLooks := .later }
def CheckPathsUptoCardSaid : Prop := Claim7.holds Tryz.pinned (.plain (OpenSpec.upto checkPathsSpec)) checkPathsUptoCard

/-- THE SECOND FORM's CARD OF 'umbrallaw09.CheckMore'. -/
def checkMoreUptoCard : Claim7 := { stood := { row := checkMoreUptoRow, standIns := [], harness := (true, "8644a09a518b2ab4023b322dc8522c2d5a7426271d3510eebe820a0d616a6a7f"), looks := false }, kinds := [], alts := [], laidByText := true, laidKinds := [.data, .data, .data, .data, .data, .data], laidTests := true, laidLooks := .later }
def CheckMoreUptoCardSaid : Prop := Claim7.holds Tryz.pinned (.plain (OpenSpec.upto checkMoreSpec)) checkMoreUptoCard
end Rows
end Go.Proofs.YtcehbcnloiooaaaGreatDoor
