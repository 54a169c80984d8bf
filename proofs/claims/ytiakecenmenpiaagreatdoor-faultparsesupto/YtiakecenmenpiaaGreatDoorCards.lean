/-
  DERIVED. GIVEN WITH THE SEED: THE CARDS: each row of YtiakecenmenpiaaGreatDoorRows.lean that lists a variable, with what it lists TIED to the program's text (the seventh form; the later family's looks); each row that meets fmt, with fmt's text TOLD by the authors' own Lean function (tested against real Go, not proved from fmt's source: count such statements apart). THE CARD IS WHAT COUNTS. Prove the row's statement (the work); the ties are given (YtiakecenmenpiaaGreatDoorTie.lean); close each card by the builder's one call (the guide's Derived/Test/ToyasCard.lean, 'card_holds'). Laid BY PROGRAM, IN A SANDBOX (cutbox-door.mjs). By AI agents, Wed Nov 11 2026. No macro, syntax, notation, axiom, sorry.
-/
import Derived.Test.YtiakecenmenpiaaGreatDoorRows
import GoSem.ClaimSeven
namespace Go.Proofs.YtiakecenmenpiaaGreatDoor
namespace Rows

/-- THE TIED CARD OF 'weirlaw01.FaultParses'. -/
def faultParsesCard : Claim7 := { stood := { row := faultParsesRow, standIns := [], harness := (true, "823697a2131906daf8fb3d633654d45dc152332ed5ab7b820019d875406334f6"), looks := true }, kinds := [], alts := [], laidByText := true, laidKinds := [.data, .data, .data, .handle, .sentinel, .sentinel], laidTests := true, laidLooks := .later }
def FaultParsesCardSaid : Prop := Claim7.holds Tryz.pinned (.plain (OpenSpec.ofChange faultParsesSpec)) faultParsesCard

/-- THE SECOND FORM's CARD OF 'weirlaw01.FaultParses'. -/
def faultParsesUptoCard : Claim7 := { stood := { row := faultParsesUptoRow, standIns := [], harness := (true, "823697a2131906daf8fb3d633654d45dc152332ed5ab7b820019d875406334f6"), looks := true }, kinds := [], alts := [], laidByText := true, laidKinds := [.data, .data, .data, .handle, .sentinel, .sentinel], laidTests := true, laidLooks := .later }
def FaultParsesUptoCardSaid : Prop := Claim7.holds Tryz.pinned (.plain (OpenSpec.upto faultParsesSpec)) faultParsesUptoCard
end Rows
end Go.Proofs.YtiakecenmenpiaaGreatDoor
