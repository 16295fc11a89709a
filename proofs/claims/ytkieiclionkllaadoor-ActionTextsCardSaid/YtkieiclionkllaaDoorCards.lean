/-
  DERIVED. GIVEN WITH THE SEED: THE CARDS: each row of YtkieiclionkllaaDoorRows.lean that lists a variable, with what it lists TIED to the program's text (the seventh form; the later family's looks); each row that meets fmt, with fmt's text TOLD by the authors' own Lean function (tested against real Go, not proved from fmt's source: count such statements apart). THE CARD IS WHAT COUNTS. Prove the row's statement (the work); the ties are given (YtkieiclionkllaaDoorTie.lean); close each card by the builder's one call (the guide's Derived/Test/ToyasCard.lean, 'card_holds'). Laid BY PROGRAM, IN A SANDBOX (cutbox-door.mjs). By AI agents, Wed Nov 11 2026. No macro, syntax, notation, axiom, sorry.
-/
import Derived.Test.YtkieiclionkllaaDoorRows
import GoSem.ClaimSeven
namespace Go.Proofs.YtkieiclionkllaaDoor
namespace Rows

/-- THE TIED CARD OF 'umbrallaw11.ActionTexts'. -/
def actionTextsCard : Claim7 := { stood := { row := actionTextsRow, standIns := [], harness := (true, "34d675ada6a1a621875f3d0bb14577d2aa5ac7e55f6ef935ff8843d6f9b3baca"), looks := true }, kinds := [], alts := [], laidByText := true, laidKinds := [.data, .data, .data, .sentinel, .sentinel, .data, .data, .data, .data, .data], laidTests := true, laidLooks := .later }
def ActionTextsCardSaid : Prop := Claim7.holds Tryd.pinned (.plain (OpenSpec.ofChange actionTextsSpec)) actionTextsCard

/-- THE TIED CARD OF 'umbrallaw11.ActionBack'. -/
def actionBackCard : Claim7 := { stood := { row := actionBackRow, standIns := [], harness := (true, "34d675ada6a1a621875f3d0bb14577d2aa5ac7e55f6ef935ff8843d6f9b3baca"), looks := true }, kinds := [], alts := [], laidByText := true, laidKinds := [.data, .data, .data, .sentinel, .sentinel, .data, .data, .data, .data, .data], laidTests := true, laidLooks := .later }
def ActionBackCardSaid : Prop := Claim7.holds Tryd.pinned (.plain (OpenSpec.ofChange actionBackSpec)) actionBackCard

/-- THE SECOND FORM's CARD OF 'umbrallaw11.ActionTexts'. -/
def actionTextsUptoCard : Claim7 := { stood := { row := actionTextsUptoRow, standIns := [], harness := (true, "34d675ada6a1a621875f3d0bb14577d2aa5ac7e55f6ef935ff8843d6f9b3baca"), looks := true }, kinds := [], alts := [], laidByText := true, laidKinds := [.data, .data, .data, .sentinel, .sentinel, .data, .data, .data, .data, .data], laidTests := true, laidLooks := .later }
def ActionTextsUptoCardSaid : Prop := Claim7.holds Tryd.pinned (.plain (OpenSpec.upto actionTextsSpec)) actionTextsUptoCard

/-- THE SECOND FORM's CARD OF 'umbrallaw11.ActionBack'. -/
def actionBackUptoCard : Claim7 := { stood := { row := actionBackUptoRow, standIns := [], harness := (true, "34d675ada6a1a621875f3d0bb14577d2aa5ac7e55f6ef935ff8843d6f9b3baca"), looks := true }, kinds := [], alts := [], laidByText := true, laidKinds := [.data, .data, .data, .sentinel, .sentinel, .data, .data, .data, .data, .data], laidTests := true, laidLooks := .later }
def ActionBackUptoCardSaid : Prop := Claim7.holds Tryd.pinned (.plain (OpenSpec.upto actionBackSpec)) actionBackUptoCard
end Rows
end Go.Proofs.YtkieiclionkllaaDoor
