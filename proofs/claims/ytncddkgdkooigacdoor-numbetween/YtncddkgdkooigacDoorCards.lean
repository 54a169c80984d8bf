/-
  DERIVED. GIVEN WITH THE SEED: THE CARDS: each row of YtncddkgdkooigacDoorRows.lean that lists a variable, with what it lists TIED to the program's text (the seventh form; the later family's looks); each row that meets fmt, with fmt's text TOLD by the authors' own Lean function (tested against real Go, not proved from fmt's source: count such statements apart). THE CARD IS WHAT COUNTS. Prove the row's statement (the work); the ties are given (YtncddkgdkooigacDoorTie.lean); close each card by the builder's one call (the guide's Derived/Test/ToyasCard.lean, 'card_holds'). Laid BY PROGRAM, IN A SANDBOX (cutbox-door.mjs). By AI agents, Wed Nov 11 2026. No macro, syntax, notation, axiom, sorry.
-/
import Derived.Test.YtncddkgdkooigacDoorRows
import GoSem.ClaimSeven
namespace Go.Proofs.YtncddkgdkooigacDoor
namespace Rows

/-- THE TIED CARD OF 'weirlaw02.NumBack'. -/
def numBackCard : Claim7 := { stood := { row := numBackRow, standIns := [], harness := (true, "e2d81a2935b4dd6a4d2012e9bb99d9594ca148b0a1b9ce2452fedd34b4e35159"), looks := true }, kinds := [], alts := [], laidByText := true, laidKinds := [.handle], laidTests := true, laidLooks := .later }
def NumBackCardSaid : Prop := Claim7.holds Tryd.pinned (.plain (OpenSpec.ofChange numBackSpec)) numBackCard

/-- THE TIED CARD OF 'weirlaw02.NumDivides'. -/
def numDividesCard : Claim7 := { stood := { row := numDividesRow, standIns := [], harness := (true, "e2d81a2935b4dd6a4d2012e9bb99d9594ca148b0a1b9ce2452fedd34b4e35159"), looks := true }, kinds := [], alts := [], laidByText := true, laidKinds := [.handle], laidTests := true, laidLooks := .later }
def NumDividesCardSaid : Prop := Claim7.holds Tryd.pinned (.plain (OpenSpec.ofChange numDividesSpec)) numDividesCard

/-- THE TIED CARD OF 'weirlaw02.NumAnyOrder'. -/
def numAnyOrderCard : Claim7 := { stood := { row := numAnyOrderRow, standIns := [], harness := (true, "e2d81a2935b4dd6a4d2012e9bb99d9594ca148b0a1b9ce2452fedd34b4e35159"), looks := true }, kinds := [], alts := [], laidByText := true, laidKinds := [.handle], laidTests := true, laidLooks := .later }
def NumAnyOrderCardSaid : Prop := Claim7.holds Tryd.pinned (.plain (OpenSpec.ofChange numAnyOrderSpec)) numAnyOrderCard

/-- THE TIED CARD OF 'weirlaw02.NumWindow'. -/
def numWindowCard : Claim7 := { stood := { row := numWindowRow, standIns := [], harness := (true, "e2d81a2935b4dd6a4d2012e9bb99d9594ca148b0a1b9ce2452fedd34b4e35159"), looks := true }, kinds := [], alts := [], laidByText := true, laidKinds := [.handle], laidTests := true, laidLooks := .later }
def NumWindowCardSaid : Prop := Claim7.holds Tryd.pinned (.plain (OpenSpec.ofChange numWindowSpec)) numWindowCard

/-- THE TIED CARD OF 'weirlaw02.NumBetween'. -/
def numBetweenCard : Claim7 := { stood := { row := numBetweenRow, standIns := [], harness := (true, "e2d81a2935b4dd6a4d2012e9bb99d9594ca148b0a1b9ce2452fedd34b4e35159"), looks := true }, kinds := [], alts := [], laidByText := true, laidKinds := [.handle], laidTests := true, laidLooks := .later }
def NumBetweenCardSaid : Prop := Claim7.holds Tryd.pinned (.plain (OpenSpec.ofChange numBetweenSpec)) numBetweenCard

/-- THE TIED CARD OF 'weirtop.TopNames'. -/
def topNamesCard : Claim7 := { stood := { row := topNamesRow, standIns := [], harness := (true, "e2d81a2935b4dd6a4d2012e9bb99d9594ca148b0a1b9ce2452fedd34b4e35159"), looks := true }, kinds := [], alts := [], laidByText := true, laidKinds := [.data, .data, .data], laidTests := true, laidLooks := .later }
def TopNamesCardSaid : Prop := Claim7.holds Tryd.pinned (.plain (OpenSpec.ofChange topNamesSpec)) topNamesCard

/-- THE SECOND FORM's CARD OF 'weirlaw02.NumBack'. -/
def numBackUptoCard : Claim7 := { stood := { row := numBackUptoRow, standIns := [], harness := (true, "e2d81a2935b4dd6a4d2012e9bb99d9594ca148b0a1b9ce2452fedd34b4e35159"), looks := true }, kinds := [], alts := [], laidByText := true, laidKinds := [.handle], laidTests := true, laidLooks := .later }
def NumBackUptoCardSaid : Prop := Claim7.holds Tryd.pinned (.plain (OpenSpec.upto numBackSpec)) numBackUptoCard

/-- THE SECOND FORM's CARD OF 'weirlaw02.NumDivides'. -/
def numDividesUptoCard : Claim7 := { stood := { row := numDividesUptoRow, standIns := [], harness := (true, "e2d81a2935b4dd6a4d2012e9bb99d9594ca148b0a1b9ce2452fedd34b4e35159"), looks := true }, kinds := [], alts := [], laidByText := true, laidKinds := [.handle], laidTests := true, laidLooks := .later }
def NumDividesUptoCardSaid : Prop := Claim7.holds Tryd.pinned (.plain (OpenSpec.upto numDividesSpec)) numDividesUptoCard

/-- THE SECOND FORM's CARD OF 'weirlaw02.NumAnyOrder'. -/
def numAnyOrderUptoCard : Claim7 := { stood := { row := numAnyOrderUptoRow, standIns := [], harness := (true, "e2d81a2935b4dd6a4d2012e9bb99d9594ca148b0a1b9ce2452fedd34b4e35159"), looks := true }, kinds := [], alts := [], laidByText := true, laidKinds := [.handle], laidTests := true, laidLooks := .later }
def NumAnyOrderUptoCardSaid : Prop := Claim7.holds Tryd.pinned (.plain (OpenSpec.upto numAnyOrderSpec)) numAnyOrderUptoCard

/-- THE SECOND FORM's CARD OF 'weirlaw02.NumWindow'. -/
def numWindowUptoCard : Claim7 := { stood := { row := numWindowUptoRow, standIns := [], harness := (true, "e2d81a2935b4dd6a4d2012e9bb99d9594ca148b0a1b9ce2452fedd34b4e35159"), looks := true }, kinds := [], alts := [], laidByText := true, laidKinds := [.handle], laidTests := true, laidLooks := .later }
def NumWindowUptoCardSaid : Prop := Claim7.holds Tryd.pinned (.plain (OpenSpec.upto numWindowSpec)) numWindowUptoCard

/-- THE SECOND FORM's CARD OF 'weirlaw02.NumBetween'. -/
def numBetweenUptoCard : Claim7 := { stood := { row := numBetweenUptoRow, standIns := [], harness := (true, "e2d81a2935b4dd6a4d2012e9bb99d9594ca148b0a1b9ce2452fedd34b4e35159"), looks := true }, kinds := [], alts := [], laidByText := true, laidKinds := [.handle], laidTests := true, laidLooks := .later }
def NumBetweenUptoCardSaid : Prop := Claim7.holds Tryd.pinned (.plain (OpenSpec.upto numBetweenSpec)) numBetweenUptoCard

/-- THE SECOND FORM's CARD OF 'weirtop.TopNames'. -/
def topNamesUptoCard : Claim7 := { stood := { row := topNamesUptoRow, standIns := [], harness := (true, "e2d81a2935b4dd6a4d2012e9bb99d9594ca148b0a1b9ce2452fedd34b4e35159"), looks := true }, kinds := [], alts := [], laidByText := true, laidKinds := [.data, .data, .data], laidTests := true, laidLooks := .later }
def TopNamesUptoCardSaid : Prop := Claim7.holds Tryd.pinned (.plain (OpenSpec.upto topNamesSpec)) topNamesUptoCard
end Rows
end Go.Proofs.YtncddkgdkooigacDoor
