/-
  DERIVED. GIVEN WITH THE SEED: THE CARDS: each row of YtpbcbpiolhjlhaaGreatDoorRows.lean that lists a variable, with what it lists TIED to the program's text (the seventh form; the later family's looks); each row that meets fmt, with fmt's text TOLD by the authors' own Lean function (tested against real Go, not proved from fmt's source: count such statements apart). THE CARD IS WHAT COUNTS. Prove the row's statement (the work); the ties are given (YtpbcbpiolhjlhaaGreatDoorTie.lean); close each card by the builder's one call (the guide's Derived/Test/ToyasCard.lean, 'card_holds'). Laid BY PROGRAM, IN A SANDBOX (cutbox-door.mjs). By AI agents, Wed Nov 11 2026. No macro, syntax, notation, axiom, sorry.
-/
import Derived.Test.YtpbcbpiolhjlhaaGreatDoorRows
import GoSem.ClaimSeven
namespace Go.Proofs.YtpbcbpiolhjlhaaGreatDoor
namespace Rows

/-- THE TIED CARD OF 'weirlaw07.BatchOwn'. -/
def batchOwnCard : Claim7 := { stood := { row := batchOwnRow, standIns := [], harness := (true, "04525dcbb73a1d38e993a216ddab578e41cb27fc39ad257155f17b8bef6aff8e"), looks := true }, kinds := [], alts := [], laidByText := true, laidKinds := [.data, .handle, .pinned], laidTests := true, laidLooks := .later }
def BatchOwnCardSaid : Prop := Claim7.holds Tryz.pinned (.plain (OpenSpec.ofChange batchOwnSpec)) batchOwnCard

/-- THE SECOND FORM's CARD OF 'weirlaw07.BatchOwn'. -/
def batchOwnUptoCard : Claim7 := { stood := { row := batchOwnUptoRow, standIns := [], harness := (true, "04525dcbb73a1d38e993a216ddab578e41cb27fc39ad257155f17b8bef6aff8e"), looks := true }, kinds := [], alts := [], laidByText := true, laidKinds := [.data, .handle, .pinned], laidTests := true, laidLooks := .later }
def BatchOwnUptoCardSaid : Prop := Claim7.holds Tryz.pinned (.plain (OpenSpec.upto batchOwnSpec)) batchOwnUptoCard
end Rows
end Go.Proofs.YtpbcbpiolhjlhaaGreatDoor
