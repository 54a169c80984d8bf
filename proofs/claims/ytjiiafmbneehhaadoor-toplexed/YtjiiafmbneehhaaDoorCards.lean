/-
  DERIVED. GIVEN WITH THE SEED: THE CARDS: each row of YtjiiafmbneehhaaDoorRows.lean that lists a variable, with what it lists TIED to the program's text (the seventh form; the later family's looks); each row that meets fmt, with fmt's text TOLD by the authors' own Lean function (tested against real Go, not proved from fmt's source: count such statements apart). THE CARD IS WHAT COUNTS. Prove the row's statement (the work); the ties are given (YtjiiafmbneehhaaDoorTie.lean); close each card by the builder's one call (the guide's Derived/Test/ToyasCard.lean, 'card_holds'). Laid BY PROGRAM, IN A SANDBOX (cutbox-door.mjs). By AI agents, Wed Nov 11 2026. No macro, syntax, notation, axiom, sorry.
-/
import Derived.Test.YtjiiafmbneehhaaDoorRows
import GoSem.ClaimSeven
namespace Go.Proofs.YtjiiafmbneehhaaDoor
namespace Rows

/-- THE TIED CARD OF 'weirtop.TopLexed'. -/
def topLexedCard : Claim7 := { stood := { row := topLexedRow, standIns := [], harness := (true, "8321828d8a8637c1f36f8866d07821a00d0cf19fdf3661496b520c64884192ae"), looks := true }, kinds := [], alts := [], laidByText := true, laidKinds := [.data, .data, .data, .sentinel, .sentinel, .data], laidTests := true, laidLooks := .later }
def TopLexedCardSaid : Prop := Claim7.holds Tryd.pinned (.plain (OpenSpec.ofChange topLexedSpec)) topLexedCard

/-- THE SECOND FORM's CARD OF 'weirtop.TopLexed'. -/
def topLexedUptoCard : Claim7 := { stood := { row := topLexedUptoRow, standIns := [], harness := (true, "8321828d8a8637c1f36f8866d07821a00d0cf19fdf3661496b520c64884192ae"), looks := true }, kinds := [], alts := [], laidByText := true, laidKinds := [.data, .data, .data, .sentinel, .sentinel, .data], laidTests := true, laidLooks := .later }
def TopLexedUptoCardSaid : Prop := Claim7.holds Tryd.pinned (.plain (OpenSpec.upto topLexedSpec)) topLexedUptoCard
end Rows
end Go.Proofs.YtjiiafmbneehhaaDoor
