/-
  DERIVED. GIVEN WITH THE SEED: THE CARDS: each row of YtaknjkinagppoaaGreatDoorRows.lean that lists a variable, with what it lists TIED to the program's text (the seventh form; the later family's looks); each row that meets fmt, with fmt's text TOLD by the authors' own Lean function (tested against real Go, not proved from fmt's source: count such statements apart). THE CARD IS WHAT COUNTS. Prove the row's statement (the work); the ties are given (YtaknjkinagppoaaGreatDoorTie.lean); close each card by the builder's one call (the guide's Derived/Test/ToyasCard.lean, 'card_holds'). Laid BY PROGRAM, IN A SANDBOX (cutbox-door.mjs). By AI agents, Wed Nov 11 2026. No macro, syntax, notation, axiom, sorry.
-/
import Derived.Test.YtaknjkinagppoaaGreatDoorRows
import GoSem.ClaimSeven
namespace Go.Proofs.YtaknjkinagppoaaGreatDoor
namespace Rows

/-- THE TIED CARD OF 'weirlaw05.KeyParses'. -/
def keyParsesCard : Claim7 := { stood := { row := keyParsesRow, standIns := [], harness := (true, "0d00604a61e43de81aee5ade9ab8381ce70c7236a82518318b949670e6b1b5a1"), looks := true }, kinds := [], alts := [], laidByText := true, laidKinds := [.data, .handle, .pinned], laidTests := true, laidLooks := .later }
def KeyParsesCardSaid : Prop := Claim7.holds Tryz.pinned (.plain (OpenSpec.ofChange keyParsesSpec)) keyParsesCard

/-- THE SECOND FORM's CARD OF 'weirlaw05.KeyParses'. -/
def keyParsesUptoCard : Claim7 := { stood := { row := keyParsesUptoRow, standIns := [], harness := (true, "0d00604a61e43de81aee5ade9ab8381ce70c7236a82518318b949670e6b1b5a1"), looks := true }, kinds := [], alts := [], laidByText := true, laidKinds := [.data, .handle, .pinned], laidTests := true, laidLooks := .later }
def KeyParsesUptoCardSaid : Prop := Claim7.holds Tryz.pinned (.plain (OpenSpec.upto keyParsesSpec)) keyParsesUptoCard
end Rows
end Go.Proofs.YtaknjkinagppoaaGreatDoor
