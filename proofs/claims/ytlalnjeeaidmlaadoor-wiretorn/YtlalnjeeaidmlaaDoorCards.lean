/-
  DERIVED. GIVEN WITH THE SEED: THE CARDS: each row of YtlalnjeeaidmlaaDoorRows.lean that lists a variable, with what it lists TIED to the program's text (the seventh form; the later family's looks); each row that meets fmt, with fmt's text TOLD by the authors' own Lean function (tested against real Go, not proved from fmt's source: count such statements apart). THE CARD IS WHAT COUNTS. Prove the row's statement (the work); the ties are given (YtlalnjeeaidmlaaDoorTie.lean); close each card by the builder's one call (the guide's Derived/Test/ToyasCard.lean, 'card_holds'). Laid BY PROGRAM, IN A SANDBOX (cutbox-door.mjs). By AI agents, Wed Nov 11 2026. No macro, syntax, notation, axiom, sorry.
-/
import Derived.Test.YtlalnjeeaidmlaaDoorRows
import GoSem.ClaimSeven
namespace Go.Proofs.YtlalnjeeaidmlaaDoor
namespace Rows

/-- THE TIED CARD OF 'weirlaw03.WireTorn'. -/
def wireTornCard : Claim7 := { stood := { row := wireTornRow, standIns := [], harness := (true, "7bbb5732f4ab02a12b4ddbe0e1c3c8e56e6ca39ae22cc22798ac0534d7955f77"), looks := false }, kinds := [], alts := [], laidByText := true, laidKinds := [.data], laidTests := true, laidLooks := .later }
def WireTornCardSaid : Prop := Claim7.holds Tryd.pinned (.plain (OpenSpec.ofChange wireTornSpec)) wireTornCard

/-- THE SECOND FORM's CARD OF 'weirlaw03.WireTorn'. -/
def wireTornUptoCard : Claim7 := { stood := { row := wireTornUptoRow, standIns := [], harness := (true, "7bbb5732f4ab02a12b4ddbe0e1c3c8e56e6ca39ae22cc22798ac0534d7955f77"), looks := false }, kinds := [], alts := [], laidByText := true, laidKinds := [.data], laidTests := true, laidLooks := .later }
def WireTornUptoCardSaid : Prop := Claim7.holds Tryd.pinned (.plain (OpenSpec.upto wireTornSpec)) wireTornUptoCard
end Rows
end Go.Proofs.YtlalnjeeaidmlaaDoor
