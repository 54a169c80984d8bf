/-
  DERIVED. GIVEN WITH THE SEED: THE CARDS: each row of YtpanldgfjipmjaaDoorRows.lean that lists a variable, with what it lists TIED to the program's text (the seventh form; the later family's looks); each row that meets fmt, with fmt's text TOLD by the authors' own Lean function (tested against real Go, not proved from fmt's source: count such statements apart). THE CARD IS WHAT COUNTS. Prove the row's statement (the work); the ties are given (YtpanldgfjipmjaaDoorTie.lean); close each card by the builder's one call (the guide's Derived/Test/ToyasCard.lean, 'card_holds'). Laid BY PROGRAM, IN A SANDBOX (cutbox-door.mjs). By AI agents, Wed Nov 11 2026. No macro, syntax, notation, axiom, sorry.
-/
import Derived.Test.YtpanldgfjipmjaaDoorRows
import GoSem.ClaimSeven
namespace Go.Proofs.YtpanldgfjipmjaaDoor
namespace Rows

/-- THE TIED CARD OF 'weirlaw09.BlockTimes'. -/
def blockTimesCard : Claim7 := { stood := { row := blockTimesRow, standIns := [], harness := (true, "9a1a9fb1abd1403995f45623480ffc4b7222fb3050e9b57d98d2b490c7de18f5"), looks := true }, kinds := [], alts := [], laidByText := true, laidKinds := [.handle, .data], laidTests := true, laidLooks := .later }
def BlockTimesCardSaid : Prop := Claim7.holds Tryd.pinned (.plain (OpenSpec.ofChange blockTimesSpec)) blockTimesCard

/-- THE TIED CARD OF 'weirlaw09.BlockValues'. -/
def blockValuesCard : Claim7 := { stood := { row := blockValuesRow, standIns := [], harness := (true, "9a1a9fb1abd1403995f45623480ffc4b7222fb3050e9b57d98d2b490c7de18f5"), looks := true }, kinds := [], alts := [], laidByText := true, laidKinds := [.handle, .data], laidTests := true, laidLooks := .later }
def BlockValuesCardSaid : Prop := Claim7.holds Tryd.pinned (.plain (OpenSpec.ofChange blockValuesSpec)) blockValuesCard

/-- THE TIED CARD OF 'weirlaw09.BlockPacks'. -/
def blockPacksCard : Claim7 := { stood := { row := blockPacksRow, standIns := [], harness := (true, "9a1a9fb1abd1403995f45623480ffc4b7222fb3050e9b57d98d2b490c7de18f5"), looks := true }, kinds := [], alts := [], laidByText := true, laidKinds := [.handle, .data], laidTests := true, laidLooks := .later }
def BlockPacksCardSaid : Prop := Claim7.holds Tryd.pinned (.plain (OpenSpec.ofChange blockPacksSpec)) blockPacksCard

/-- THE TIED CARD OF 'weirlaw09.BlockLittle'. -/
def blockLittleCard : Claim7 := { stood := { row := blockLittleRow, standIns := [], harness := (true, "9a1a9fb1abd1403995f45623480ffc4b7222fb3050e9b57d98d2b490c7de18f5"), looks := true }, kinds := [], alts := [], laidByText := true, laidKinds := [.data], laidTests := true, laidLooks := .later }
def BlockLittleCardSaid : Prop := Claim7.holds Tryd.pinned (.plain (OpenSpec.ofChange blockLittleSpec)) blockLittleCard

/-- THE SECOND FORM's CARD OF 'weirlaw09.BlockTimes'. -/
def blockTimesUptoCard : Claim7 := { stood := { row := blockTimesUptoRow, standIns := [], harness := (true, "9a1a9fb1abd1403995f45623480ffc4b7222fb3050e9b57d98d2b490c7de18f5"), looks := true }, kinds := [], alts := [], laidByText := true, laidKinds := [.handle, .data], laidTests := true, laidLooks := .later }
def BlockTimesUptoCardSaid : Prop := Claim7.holds Tryd.pinned (.plain (OpenSpec.upto blockTimesSpec)) blockTimesUptoCard

/-- THE SECOND FORM's CARD OF 'weirlaw09.BlockValues'. -/
def blockValuesUptoCard : Claim7 := { stood := { row := blockValuesUptoRow, standIns := [], harness := (true, "9a1a9fb1abd1403995f45623480ffc4b7222fb3050e9b57d98d2b490c7de18f5"), looks := true }, kinds := [], alts := [], laidByText := true, laidKinds := [.handle, .data], laidTests := true, laidLooks := .later }
def BlockValuesUptoCardSaid : Prop := Claim7.holds Tryd.pinned (.plain (OpenSpec.upto blockValuesSpec)) blockValuesUptoCard

/-- THE SECOND FORM's CARD OF 'weirlaw09.BlockPacks'. -/
def blockPacksUptoCard : Claim7 := { stood := { row := blockPacksUptoRow, standIns := [], harness := (true, "9a1a9fb1abd1403995f45623480ffc4b7222fb3050e9b57d98d2b490c7de18f5"), looks := true }, kinds := [], alts := [], laidByText := true, laidKinds := [.handle, .data], laidTests := true, laidLooks := .later }
def BlockPacksUptoCardSaid : Prop := Claim7.holds Tryd.pinned (.plain (OpenSpec.upto blockPacksSpec)) blockPacksUptoCard

/-- THE SECOND FORM's CARD OF 'weirlaw09.BlockLittle'. -/
def blockLittleUptoCard : Claim7 := { stood := { row := blockLittleUptoRow, standIns := [], harness := (true, "9a1a9fb1abd1403995f45623480ffc4b7222fb3050e9b57d98d2b490c7de18f5"), looks := true }, kinds := [], alts := [], laidByText := true, laidKinds := [.data], laidTests := true, laidLooks := .later }
def BlockLittleUptoCardSaid : Prop := Claim7.holds Tryd.pinned (.plain (OpenSpec.upto blockLittleSpec)) blockLittleUptoCard
end Rows
end Go.Proofs.YtpanldgfjipmjaaDoor
