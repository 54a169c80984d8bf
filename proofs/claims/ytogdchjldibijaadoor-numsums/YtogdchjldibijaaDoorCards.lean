/-
  DERIVED. GIVEN WITH THE SEED: THE CARDS: each row of YtogdchjldibijaaDoorRows.lean that lists a variable, with what it lists TIED to the program's text (the seventh form; the later family's looks); each row that meets fmt, with fmt's text TOLD by the authors' own Lean function (tested against real Go, not proved from fmt's source: count such statements apart). THE CARD IS WHAT COUNTS. Prove the row's statement (the work); the ties are given (YtogdchjldibijaaDoorTie.lean); close each card by the builder's one call (the guide's Derived/Test/ToyasCard.lean, 'card_holds'). Laid BY PROGRAM, IN A SANDBOX (cutbox-door.mjs). By AI agents, Wed Nov 11 2026. No macro, syntax, notation, axiom, sorry.
-/
import Derived.Test.YtogdchjldibijaaDoorRows
import GoSem.ClaimSeven
namespace Go.Proofs.YtogdchjldibijaaDoor
namespace Rows

/-- THE TIED CARD OF 'weirlaw02.NumSums'. -/
def numSumsCard : Claim7 := { stood := { row := numSumsRow, standIns := [], harness := (true, "2e28b8080d3e0ff4dd66de538ad90031afc43a3eca5d65d3b10ce3b8b5f092b0"), looks := true }, kinds := [], alts := [], laidByText := true, laidKinds := [.handle], laidTests := true, laidLooks := .later }
def NumSumsCardSaid : Prop := Claim7.holds Tryd.pinned (.plain (OpenSpec.ofChange numSumsSpec)) numSumsCard

/-- THE TIED CARD OF 'weirlaw02.NumParses'. -/
def numParsesCard : Claim7 := { stood := { row := numParsesRow, standIns := [], harness := (true, "2e28b8080d3e0ff4dd66de538ad90031afc43a3eca5d65d3b10ce3b8b5f092b0"), looks := true }, kinds := [], alts := [], laidByText := true, laidKinds := [.handle], laidTests := true, laidLooks := .later }
def NumParsesCardSaid : Prop := Claim7.holds Tryd.pinned (.plain (OpenSpec.ofChange numParsesSpec)) numParsesCard

/-- THE TIED CARD OF 'weirlaw02.NumBack'. -/
def numBackCard : Claim7 := { stood := { row := numBackRow, standIns := [], harness := (true, "2e28b8080d3e0ff4dd66de538ad90031afc43a3eca5d65d3b10ce3b8b5f092b0"), looks := true }, kinds := [], alts := [], laidByText := true, laidKinds := [.handle], laidTests := true, laidLooks := .later }
def NumBackCardSaid : Prop := Claim7.holds Tryd.pinned (.plain (OpenSpec.ofChange numBackSpec)) numBackCard

/-- THE TIED CARD OF 'weirlaw02.NumAnyOrder'. -/
def numAnyOrderCard : Claim7 := { stood := { row := numAnyOrderRow, standIns := [], harness := (true, "2e28b8080d3e0ff4dd66de538ad90031afc43a3eca5d65d3b10ce3b8b5f092b0"), looks := true }, kinds := [], alts := [], laidByText := true, laidKinds := [.handle], laidTests := true, laidLooks := .later }
def NumAnyOrderCardSaid : Prop := Claim7.holds Tryd.pinned (.plain (OpenSpec.ofChange numAnyOrderSpec)) numAnyOrderCard

/-- THE SECOND FORM's CARD OF 'weirlaw02.NumSums'. -/
def numSumsUptoCard : Claim7 := { stood := { row := numSumsUptoRow, standIns := [], harness := (true, "2e28b8080d3e0ff4dd66de538ad90031afc43a3eca5d65d3b10ce3b8b5f092b0"), looks := true }, kinds := [], alts := [], laidByText := true, laidKinds := [.handle], laidTests := true, laidLooks := .later }
def NumSumsUptoCardSaid : Prop := Claim7.holds Tryd.pinned (.plain (OpenSpec.upto numSumsSpec)) numSumsUptoCard

/-- THE SECOND FORM's CARD OF 'weirlaw02.NumParses'. -/
def numParsesUptoCard : Claim7 := { stood := { row := numParsesUptoRow, standIns := [], harness := (true, "2e28b8080d3e0ff4dd66de538ad90031afc43a3eca5d65d3b10ce3b8b5f092b0"), looks := true }, kinds := [], alts := [], laidByText := true, laidKinds := [.handle], laidTests := true, laidLooks := .later }
def NumParsesUptoCardSaid : Prop := Claim7.holds Tryd.pinned (.plain (OpenSpec.upto numParsesSpec)) numParsesUptoCard

/-- THE SECOND FORM's CARD OF 'weirlaw02.NumBack'. -/
def numBackUptoCard : Claim7 := { stood := { row := numBackUptoRow, standIns := [], harness := (true, "2e28b8080d3e0ff4dd66de538ad90031afc43a3eca5d65d3b10ce3b8b5f092b0"), looks := true }, kinds := [], alts := [], laidByText := true, laidKinds := [.handle], laidTests := true, laidLooks := .later }
def NumBackUptoCardSaid : Prop := Claim7.holds Tryd.pinned (.plain (OpenSpec.upto numBackSpec)) numBackUptoCard

/-- THE SECOND FORM's CARD OF 'weirlaw02.NumAnyOrder'. -/
def numAnyOrderUptoCard : Claim7 := { stood := { row := numAnyOrderUptoRow, standIns := [], harness := (true, "2e28b8080d3e0ff4dd66de538ad90031afc43a3eca5d65d3b10ce3b8b5f092b0"), looks := true }, kinds := [], alts := [], laidByText := true, laidKinds := [.handle], laidTests := true, laidLooks := .later }
def NumAnyOrderUptoCardSaid : Prop := Claim7.holds Tryd.pinned (.plain (OpenSpec.upto numAnyOrderSpec)) numAnyOrderUptoCard
end Rows
end Go.Proofs.YtogdchjldibijaaDoor
