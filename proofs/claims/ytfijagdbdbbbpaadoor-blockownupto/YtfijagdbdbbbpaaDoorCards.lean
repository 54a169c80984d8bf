/-
  DERIVED. GIVEN WITH THE SEED: THE CARDS: each row of YtfijagdbdbbbpaaDoorRows.lean that lists a variable, with what it lists TIED to the program's text (the seventh form; the later family's looks); each row that meets fmt, with fmt's text TOLD by the authors' own Lean function (tested against real Go, not proved from fmt's source: count such statements apart). THE CARD IS WHAT COUNTS. Prove the row's statement (the work); the ties are given (YtfijagdbdbbbpaaDoorTie.lean); close each card by the builder's one call (the guide's Derived/Test/ToyasCard.lean, 'card_holds'). Laid BY PROGRAM, IN A SANDBOX (cutbox-door.mjs). By AI agents, Wed Nov 11 2026. No macro, syntax, notation, axiom, sorry.
-/
import Derived.Test.YtfijagdbdbbbpaaDoorRows
import GoSem.ClaimSeven
namespace Go.Proofs.YtfijagdbdbbbpaaDoor
namespace Rows

/-- THE TIED CARD OF 'weirlaw09.BlockOwn'. -/
def blockOwnCard : Claim7 := { stood := { row := blockOwnRow, standIns := [], harness := (true, "9900b0901db19aadb0e77c5490cac7ed93dd1cdd94d02b5951e481a443523373"), looks := false }, kinds := [], alts := [], laidByText := true, laidKinds := [.data], laidTests := true, laidLooks := .later }
def BlockOwnCardSaid : Prop := Claim7.holds Tryd.pinned (.plain (OpenSpec.ofChange blockOwnSpec)) blockOwnCard

/-- THE SECOND FORM's CARD OF 'weirlaw09.BlockOwn'. -/
def blockOwnUptoCard : Claim7 := { stood := { row := blockOwnUptoRow, standIns := [], harness := (true, "9900b0901db19aadb0e77c5490cac7ed93dd1cdd94d02b5951e481a443523373"), looks := false }, kinds := [], alts := [], laidByText := true, laidKinds := [.data], laidTests := true, laidLooks := .later }
def BlockOwnUptoCardSaid : Prop := Claim7.holds Tryd.pinned (.plain (OpenSpec.upto blockOwnSpec)) blockOwnUptoCard
end Rows
end Go.Proofs.YtfijagdbdbbbpaaDoor
