/-
  DERIVED. GIVEN WITH THE SEED: THE CARDS: each row of YtgodihhlpcnbiaaGreatDoorRows.lean that lists a variable, with what it lists TIED to the program's text (the seventh form; the later family's looks); each row that meets fmt, with fmt's text TOLD by the authors' own Lean function (tested against real Go, not proved from fmt's source: count such statements apart). THE CARD IS WHAT COUNTS. Prove the row's statement (the work); the ties are given (YtgodihhlpcnbiaaGreatDoorTie.lean); close each card by the builder's one call (the guide's Derived/Test/ToyasCard.lean, 'card_holds'). Laid BY PROGRAM, IN A SANDBOX (cutbox-door.mjs). By AI agents, Wed Nov 11 2026. No macro, syntax, notation, axiom, sorry.
-/
import Derived.Test.YtgodihhlpcnbiaaGreatDoorRows
import GoSem.ClaimSeven
namespace Go.Proofs.YtgodihhlpcnbiaaGreatDoor
namespace Rows

/-- THE TIED CARD OF 'weirlaw07.BatchChecks'. -/
def batchChecksCard : Claim7 := { stood := { row := batchChecksRow, standIns := [], harness := (true, "abf7887b16fd503465c0ec901e2480446e15b1f28ddfdca89c4d13619edbffab"), looks := true }, kinds := [], alts := [], laidByText := true, laidKinds := [.data, .handle, .pinned], laidTests := true, laidLooks := .later }
def BatchChecksCardSaid : Prop := Claim7.holds Tryz.pinned (.plain (OpenSpec.ofChange batchChecksSpec)) batchChecksCard

/-- THE TIED CARD OF 'weirlaw07.BatchFlats'. -/
def batchFlatsCard : Claim7 := { stood := { row := batchFlatsRow, standIns := [], harness := (true, "abf7887b16fd503465c0ec901e2480446e15b1f28ddfdca89c4d13619edbffab"), looks := true }, kinds := [], alts := [], laidByText := true, laidKinds := [.data, .handle, .pinned], laidTests := true, laidLooks := .later }
def BatchFlatsCardSaid : Prop := Claim7.holds Tryz.pinned (.plain (OpenSpec.ofChange batchFlatsSpec)) batchFlatsCard

/-- THE TIED CARD OF 'weirlaw07.BatchMerges'. -/
def batchMergesCard : Claim7 := { stood := { row := batchMergesRow, standIns := [], harness := (true, "abf7887b16fd503465c0ec901e2480446e15b1f28ddfdca89c4d13619edbffab"), looks := true }, kinds := [], alts := [], laidByText := true, laidKinds := [.data, .handle, .pinned], laidTests := true, laidLooks := .later }
def BatchMergesCardSaid : Prop := Claim7.holds Tryz.pinned (.plain (OpenSpec.ofChange batchMergesSpec)) batchMergesCard

/-- THE TIED CARD OF 'weirlaw07.BatchTurns'. -/
def batchTurnsCard : Claim7 := { stood := { row := batchTurnsRow, standIns := [], harness := (true, "abf7887b16fd503465c0ec901e2480446e15b1f28ddfdca89c4d13619edbffab"), looks := true }, kinds := [], alts := [], laidByText := true, laidKinds := [.data, .handle, .pinned], laidTests := true, laidLooks := .later }
def BatchTurnsCardSaid : Prop := Claim7.holds Tryz.pinned (.plain (OpenSpec.ofChange batchTurnsSpec)) batchTurnsCard

/-- THE SECOND FORM's CARD OF 'weirlaw07.BatchChecks'. -/
def batchChecksUptoCard : Claim7 := { stood := { row := batchChecksUptoRow, standIns := [], harness := (true, "abf7887b16fd503465c0ec901e2480446e15b1f28ddfdca89c4d13619edbffab"), looks := true }, kinds := [], alts := [], laidByText := true, laidKinds := [.data, .handle, .pinned], laidTests := true, laidLooks := .later }
def BatchChecksUptoCardSaid : Prop := Claim7.holds Tryz.pinned (.plain (OpenSpec.upto batchChecksSpec)) batchChecksUptoCard

/-- THE SECOND FORM's CARD OF 'weirlaw07.BatchFlats'. -/
def batchFlatsUptoCard : Claim7 := { stood := { row := batchFlatsUptoRow, standIns := [], harness := (true, "abf7887b16fd503465c0ec901e2480446e15b1f28ddfdca89c4d13619edbffab"), looks := true }, kinds := [], alts := [], laidByText := true, laidKinds := [.data, .handle, .pinned], laidTests := true, laidLooks := .later }
def BatchFlatsUptoCardSaid : Prop := Claim7.holds Tryz.pinned (.plain (OpenSpec.upto batchFlatsSpec)) batchFlatsUptoCard

/-- THE SECOND FORM's CARD OF 'weirlaw07.BatchMerges'. -/
def batchMergesUptoCard : Claim7 := { stood := { row := batchMergesUptoRow, standIns := [], harness := (true, "abf7887b16fd503465c0ec901e2480446e15b1f28ddfdca89c4d13619edbffab"), looks := true }, kinds := [], alts := [], laidByText := true, laidKinds := [.data, .handle, .pinned], laidTests := true, laidLooks := .later }
def BatchMergesUptoCardSaid : Prop := Claim7.holds Tryz.pinned (.plain (OpenSpec.upto batchMergesSpec)) batchMergesUptoCard

/-- THE SECOND FORM's CARD OF 'weirlaw07.BatchTurns'. -/
def batchTurnsUptoCard : Claim7 := { stood := { row := batchTurnsUptoRow, standIns := [], harness := (true, "abf7887b16fd503465c0ec901e2480446e15b1f28ddfdca89c4d13619edbffab"), looks := true }, kinds := [], alts := [], laidByText := true, laidKinds := [.data, .handle, .pinned], laidTests := true, laidLooks := .later }
def BatchTurnsUptoCardSaid : Prop := Claim7.holds Tryz.pinned (.plain (OpenSpec.upto batchTurnsSpec)) batchTurnsUptoCard
end Rows
end Go.Proofs.YtgodihhlpcnbiaaGreatDoor
