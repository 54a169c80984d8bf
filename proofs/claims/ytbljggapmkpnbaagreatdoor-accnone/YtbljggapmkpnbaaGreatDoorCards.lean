/-
  DERIVED. GIVEN WITH THE SEED: THE CARDS: each row of YtbljggapmkpnbaaGreatDoorRows.lean that lists a variable, with what it lists TIED to the program's text (the seventh form; the later family's looks); each row that meets fmt, with fmt's text TOLD by the authors' own Lean function (tested against real Go, not proved from fmt's source: count such statements apart). THE CARD IS WHAT COUNTS. Prove the row's statement (the work); the ties are given (YtbljggapmkpnbaaGreatDoorTie.lean); close each card by the builder's one call (the guide's Derived/Test/ToyasCard.lean, 'card_holds'). Laid BY PROGRAM, IN A SANDBOX (cutbox-door.mjs). By AI agents, Wed Nov 11 2026. No macro, syntax, notation, axiom, sorry.
-/
import Derived.Test.YtbljggapmkpnbaaGreatDoorRows
import GoSem.ClaimSeven
namespace Go.Proofs.YtbljggapmkpnbaaGreatDoor
namespace Rows

/-- THE TIED CARD OF 'weirlaw22.AccNone'. -/
def accNoneCard : Claim7 := { stood := { row := accNoneRow, standIns := [], harness := (true, "fe7718e059975ff5e072a5564af3a1ebecfdbb21caf829a590401a4506189d96"), looks := true }, kinds := [], alts := [], laidByText := true, laidKinds := [.handle], laidTests := true, laidLooks := .later }
def AccNoneCardSaid : Prop := Claim7.holds Tryz.pinned (.plain (OpenSpec.ofChange accNoneSpec)) accNoneCard

/-- THE TIED CARD OF 'weirlaw22.AccBounds'. -/
def accBoundsCard : Claim7 := { stood := { row := accBoundsRow, standIns := [], harness := (true, "fe7718e059975ff5e072a5564af3a1ebecfdbb21caf829a590401a4506189d96"), looks := true }, kinds := [], alts := [], laidByText := true, laidKinds := [.handle], laidTests := true, laidLooks := .later }
def AccBoundsCardSaid : Prop := Claim7.holds Tryz.pinned (.plain (OpenSpec.ofChange accBoundsSpec)) accBoundsCard

/-- THE TIED CARD OF 'weirlaw22.AccBack'. -/
def accBackCard : Claim7 := { stood := { row := accBackRow, standIns := [], harness := (true, "fe7718e059975ff5e072a5564af3a1ebecfdbb21caf829a590401a4506189d96"), looks := true }, kinds := [], alts := [], laidByText := true, laidKinds := [.handle], laidTests := true, laidLooks := .later }
def AccBackCardSaid : Prop := Claim7.holds Tryz.pinned (.plain (OpenSpec.ofChange accBackSpec)) accBackCard

/-- THE TIED CARD OF 'weirlaw22.AccWays'. -/
def accWaysCard : Claim7 := { stood := { row := accWaysRow, standIns := [], harness := (true, "fe7718e059975ff5e072a5564af3a1ebecfdbb21caf829a590401a4506189d96"), looks := true }, kinds := [], alts := [], laidByText := true, laidKinds := [.handle], laidTests := true, laidLooks := .later }
def AccWaysCardSaid : Prop := Claim7.holds Tryz.pinned (.plain (OpenSpec.ofChange accWaysSpec)) accWaysCard

/-- THE SECOND FORM's CARD OF 'weirlaw22.AccNone'. -/
def accNoneUptoCard : Claim7 := { stood := { row := accNoneUptoRow, standIns := [], harness := (true, "fe7718e059975ff5e072a5564af3a1ebecfdbb21caf829a590401a4506189d96"), looks := true }, kinds := [], alts := [], laidByText := true, laidKinds := [.handle], laidTests := true, laidLooks := .later }
def AccNoneUptoCardSaid : Prop := Claim7.holds Tryz.pinned (.plain (OpenSpec.upto accNoneSpec)) accNoneUptoCard

/-- THE SECOND FORM's CARD OF 'weirlaw22.AccBounds'. -/
def accBoundsUptoCard : Claim7 := { stood := { row := accBoundsUptoRow, standIns := [], harness := (true, "fe7718e059975ff5e072a5564af3a1ebecfdbb21caf829a590401a4506189d96"), looks := true }, kinds := [], alts := [], laidByText := true, laidKinds := [.handle], laidTests := true, laidLooks := .later }
def AccBoundsUptoCardSaid : Prop := Claim7.holds Tryz.pinned (.plain (OpenSpec.upto accBoundsSpec)) accBoundsUptoCard

/-- THE SECOND FORM's CARD OF 'weirlaw22.AccBack'. -/
def accBackUptoCard : Claim7 := { stood := { row := accBackUptoRow, standIns := [], harness := (true, "fe7718e059975ff5e072a5564af3a1ebecfdbb21caf829a590401a4506189d96"), looks := true }, kinds := [], alts := [], laidByText := true, laidKinds := [.handle], laidTests := true, laidLooks := .later }
def AccBackUptoCardSaid : Prop := Claim7.holds Tryz.pinned (.plain (OpenSpec.upto accBackSpec)) accBackUptoCard

/-- THE SECOND FORM's CARD OF 'weirlaw22.AccWays'. -/
def accWaysUptoCard : Claim7 := { stood := { row := accWaysUptoRow, standIns := [], harness := (true, "fe7718e059975ff5e072a5564af3a1ebecfdbb21caf829a590401a4506189d96"), looks := true }, kinds := [], alts := [], laidByText := true, laidKinds := [.handle], laidTests := true, laidLooks := .later }
def AccWaysUptoCardSaid : Prop := Claim7.holds Tryz.pinned (.plain (OpenSpec.upto accWaysSpec)) accWaysUptoCard
end Rows
end Go.Proofs.YtbljggapmkpnbaaGreatDoor
