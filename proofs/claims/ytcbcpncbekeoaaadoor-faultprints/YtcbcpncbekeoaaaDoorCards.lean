/-
  DERIVED. GIVEN WITH THE SEED: THE CARDS: each row of YtcbcpncbekeoaaaDoorRows.lean that lists a variable, with what it lists TIED to the program's text (the seventh form; the later family's looks); each row that meets fmt, with fmt's text TOLD by the authors' own Lean function (tested against real Go, not proved from fmt's source: count such statements apart). THE CARD IS WHAT COUNTS. Prove the row's statement (the work); the ties are given (YtcbcpncbekeoaaaDoorTie.lean); close each card by the builder's one call (the guide's Derived/Test/ToyasCard.lean, 'card_holds'). Laid BY PROGRAM, IN A SANDBOX (cutbox-door.mjs). By AI agents, Wed Nov 11 2026. No macro, syntax, notation, axiom, sorry.
-/
import Derived.Test.YtcbcpncbekeoaaaDoorRows
import GoSem.ClaimSeven
namespace Go.Proofs.YtcbcpncbekeoaaaDoor
namespace Rows

/-- THE TIED CARD OF 'weirlaw01.FaultTells'. -/
def faultTellsCard : Claim7 := { stood := { row := faultTellsRow, standIns := [], harness := (true, "4d43f164485f2973b1c659dca81b4fa7667722771e05f65a28e3adbfd141804d"), looks := true }, kinds := [], alts := [], laidByText := true, laidKinds := [.data, .data, .data, .handle], laidTests := true, laidLooks := .later }
def FaultTellsCardSaid : Prop := Claim7.holds Tryd.pinned (.plain (OpenSpec.ofChange faultTellsSpec)) faultTellsCard

/-- THE TIED CARD OF 'weirlaw01.FaultPrints'. -/
def faultPrintsCard : Claim7 := { stood := { row := faultPrintsRow, standIns := [], harness := (true, "4d43f164485f2973b1c659dca81b4fa7667722771e05f65a28e3adbfd141804d"), looks := true }, kinds := [], alts := [], laidByText := true, laidKinds := [.data, .data, .data, .handle], laidTests := true, laidLooks := .later }
def FaultPrintsCardSaid : Prop := Claim7.holds Tryd.pinned (.plain (OpenSpec.ofChange faultPrintsSpec)) faultPrintsCard

/-- THE SECOND FORM's CARD OF 'weirlaw01.FaultTells'. -/
def faultTellsUptoCard : Claim7 := { stood := { row := faultTellsUptoRow, standIns := [], harness := (true, "4d43f164485f2973b1c659dca81b4fa7667722771e05f65a28e3adbfd141804d"), looks := true }, kinds := [], alts := [], laidByText := true, laidKinds := [.data, .data, .data, .handle], laidTests := true, laidLooks := .later }
def FaultTellsUptoCardSaid : Prop := Claim7.holds Tryd.pinned (.plain (OpenSpec.upto faultTellsSpec)) faultTellsUptoCard

/-- THE SECOND FORM's CARD OF 'weirlaw01.FaultPrints'. -/
def faultPrintsUptoCard : Claim7 := { stood := { row := faultPrintsUptoRow, standIns := [], harness := (true, "4d43f164485f2973b1c659dca81b4fa7667722771e05f65a28e3adbfd141804d"), looks := true }, kinds := [], alts := [], laidByText := true, laidKinds := [.data, .data, .data, .handle], laidTests := true, laidLooks := .later }
def FaultPrintsUptoCardSaid : Prop := Claim7.holds Tryd.pinned (.plain (OpenSpec.upto faultPrintsSpec)) faultPrintsUptoCard
end Rows
end Go.Proofs.YtcbcpncbekeoaaaDoor
