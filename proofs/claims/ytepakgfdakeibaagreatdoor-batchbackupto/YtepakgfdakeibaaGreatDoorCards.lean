/-
  DERIVED. GIVEN WITH THE SEED: THE CARDS: each row of YtepakgfdakeibaaGreatDoorRows.lean that lists a variable, with what it lists TIED to the program's text (the seventh form; the later family's looks); each row that meets fmt, with fmt's text TOLD by the authors' own Lean function (tested against real Go, not proved from fmt's source: count such statements apart). THE CARD IS WHAT COUNTS. Prove the row's statement (the work); the ties are given (YtepakgfdakeibaaGreatDoorTie.lean); close each card by the builder's one call (the guide's Derived/Test/ToyasCard.lean, 'card_holds'). Laid BY PROGRAM, IN A SANDBOX (cutbox-door.mjs). By AI agents, Wed Nov 11 2026. No macro, syntax, notation, axiom, sorry.
-/
import Derived.Test.YtepakgfdakeibaaGreatDoorRows
import GoSem.ClaimSeven
namespace Go.Proofs.YtepakgfdakeibaaGreatDoor
namespace Rows

/-- THE TIED CARD OF 'weirlaw07.BatchPoints'. -/
def batchPointsCard : Claim7 := { stood := { row := batchPointsRow, standIns := [], harness := (true, "2dcf2cd8b78df52154f3ed11a8232bfa57ad8b1f7874ce9cb33a1daedefee121"), looks := true }, kinds := [], alts := [], laidByText := true, laidKinds := [.data, .handle, .pinned], laidTests := true, laidLooks := .later }
def BatchPointsCardSaid : Prop := Claim7.holds Tryz.pinned (.plain (OpenSpec.ofChange batchPointsSpec)) batchPointsCard

/-- THE TIED CARD OF 'weirlaw07.BatchBack'. -/
def batchBackCard : Claim7 := { stood := { row := batchBackRow, standIns := [], harness := (true, "2dcf2cd8b78df52154f3ed11a8232bfa57ad8b1f7874ce9cb33a1daedefee121"), looks := true }, kinds := [], alts := [], laidByText := true, laidKinds := [.data, .handle, .pinned], laidTests := true, laidLooks := .later }
def BatchBackCardSaid : Prop := Claim7.holds Tryz.pinned (.plain (OpenSpec.ofChange batchBackSpec)) batchBackCard

/-- THE SECOND FORM's CARD OF 'weirlaw07.BatchPoints'. -/
def batchPointsUptoCard : Claim7 := { stood := { row := batchPointsUptoRow, standIns := [], harness := (true, "2dcf2cd8b78df52154f3ed11a8232bfa57ad8b1f7874ce9cb33a1daedefee121"), looks := true }, kinds := [], alts := [], laidByText := true, laidKinds := [.data, .handle, .pinned], laidTests := true, laidLooks := .later }
def BatchPointsUptoCardSaid : Prop := Claim7.holds Tryz.pinned (.plain (OpenSpec.upto batchPointsSpec)) batchPointsUptoCard

/-- THE SECOND FORM's CARD OF 'weirlaw07.BatchBack'. -/
def batchBackUptoCard : Claim7 := { stood := { row := batchBackUptoRow, standIns := [], harness := (true, "2dcf2cd8b78df52154f3ed11a8232bfa57ad8b1f7874ce9cb33a1daedefee121"), looks := true }, kinds := [], alts := [], laidByText := true, laidKinds := [.data, .handle, .pinned], laidTests := true, laidLooks := .later }
def BatchBackUptoCardSaid : Prop := Claim7.holds Tryz.pinned (.plain (OpenSpec.upto batchBackSpec)) batchBackUptoCard
end Rows
end Go.Proofs.YtepakgfdakeibaaGreatDoor
