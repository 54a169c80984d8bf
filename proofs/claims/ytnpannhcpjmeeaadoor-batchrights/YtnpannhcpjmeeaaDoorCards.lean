/-
  DERIVED. GIVEN WITH THE SEED: THE CARDS: each row of YtnpannhcpjmeeaaDoorRows.lean that lists a variable, with what it lists TIED to the program's text (the seventh form; the later family's looks); each row that meets fmt, with fmt's text TOLD by the authors' own Lean function (tested against real Go, not proved from fmt's source: count such statements apart). THE CARD IS WHAT COUNTS. Prove the row's statement (the work); the ties are given (YtnpannhcpjmeeaaDoorTie.lean); close each card by the builder's one call (the guide's Derived/Test/ToyasCard.lean, 'card_holds'). Laid BY PROGRAM, IN A SANDBOX (cutbox-door.mjs). By AI agents, Wed Nov 11 2026. No macro, syntax, notation, axiom, sorry.
-/
import Derived.Test.YtnpannhcpjmeeaaDoorRows
import GoSem.ClaimSeven
namespace Go.Proofs.YtnpannhcpjmeeaaDoor
namespace Rows

/-- THE TIED CARD OF 'weirlaw07.BatchRights'. -/
def batchRightsCard : Claim7 := { stood := { row := batchRightsRow, standIns := [], harness := (true, "bd0974f74af46b0a0a76fa4f8dae6657de790e15c7c2bc9a15d47e46a7e6dfe8"), looks := true }, kinds := [], alts := [], laidByText := true, laidKinds := [.data, .handle, .pinned], laidTests := true, laidLooks := .later }
def BatchRightsCardSaid : Prop := Claim7.holds Tryd.pinned (.plain (OpenSpec.ofChange batchRightsSpec)) batchRightsCard

/-- THE SECOND FORM's CARD OF 'weirlaw07.BatchRights'. -/
def batchRightsUptoCard : Claim7 := { stood := { row := batchRightsUptoRow, standIns := [], harness := (true, "bd0974f74af46b0a0a76fa4f8dae6657de790e15c7c2bc9a15d47e46a7e6dfe8"), looks := true }, kinds := [], alts := [], laidByText := true, laidKinds := [.data, .handle, .pinned], laidTests := true, laidLooks := .later }
def BatchRightsUptoCardSaid : Prop := Claim7.holds Tryd.pinned (.plain (OpenSpec.upto batchRightsSpec)) batchRightsUptoCard
end Rows
end Go.Proofs.YtnpannhcpjmeeaaDoor
