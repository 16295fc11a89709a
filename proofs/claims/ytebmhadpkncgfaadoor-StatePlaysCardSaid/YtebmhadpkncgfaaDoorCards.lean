/-
  DERIVED. GIVEN WITH THE SEED: THE CARDS: each row of YtebmhadpkncgfaaDoorRows.lean that lists a variable, with what it lists TIED to the program's text (the seventh form; the later family's looks); each row that meets fmt, with fmt's text TOLD by the authors' own Lean function (tested against real Go, not proved from fmt's source: count such statements apart). THE CARD IS WHAT COUNTS. Prove the row's statement (the work); the ties are given (YtebmhadpkncgfaaDoorTie.lean); close each card by the builder's one call (the guide's Derived/Test/ToyasCard.lean, 'card_holds'). Laid BY PROGRAM, IN A SANDBOX (cutbox-door.mjs). By AI agents, Wed Nov 11 2026. No macro, syntax, notation, axiom, sorry.
-/
import Derived.Test.YtebmhadpkncgfaaDoorRows
import GoSem.ClaimSeven
namespace Go.Proofs.YtebmhadpkncgfaaDoor
namespace Rows

/-- THE TIED CARD OF 'umbrallaw15.StatePlays'. -/
def statePlaysCard : Claim7 := { stood := { row := statePlaysRow, standIns := [], harness := (true, "4b71e6ffacb577dc556ad6f5b2ec30835d797046ee4baa60e928e1890d2b6b15"), looks := false }, kinds := [], alts := [], laidByText := true, laidKinds := [.data, .data], laidTests := true, laidLooks := .later }
def StatePlaysCardSaid : Prop := Claim7.holds Tryd.pinned (.plain (OpenSpec.ofChange statePlaysSpec)) statePlaysCard

/-- THE SECOND FORM's CARD OF 'umbrallaw15.StatePlays'. -/
def statePlaysUptoCard : Claim7 := { stood := { row := statePlaysUptoRow, standIns := [], harness := (true, "4b71e6ffacb577dc556ad6f5b2ec30835d797046ee4baa60e928e1890d2b6b15"), looks := false }, kinds := [], alts := [], laidByText := true, laidKinds := [.data, .data], laidTests := true, laidLooks := .later }
def StatePlaysUptoCardSaid : Prop := Claim7.holds Tryd.pinned (.plain (OpenSpec.upto statePlaysSpec)) statePlaysUptoCard
end Rows
end Go.Proofs.YtebmhadpkncgfaaDoor
