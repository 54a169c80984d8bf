/-
  DERIVED. GIVEN WITH THE SEED: THE CARDS: each row of YtpicgjjbpiinfaaDoorRows.lean that lists a variable, with what it lists TIED to the program's text (the seventh form; the later family's looks); each row that meets fmt, with fmt's text TOLD by the authors' own Lean function (tested against real Go, not proved from fmt's source: count such statements apart). THE CARD IS WHAT COUNTS. Prove the row's statement (the work); the ties are given (YtpicgjjbpiinfaaDoorTie.lean); close each card by the builder's one call (the guide's Derived/Test/ToyasCard.lean, 'card_holds'). Laid BY PROGRAM, IN A SANDBOX (cutbox-door.mjs). By AI agents, Wed Nov 11 2026. No macro, syntax, notation, axiom, sorry.
-/
import Derived.Test.YtpicgjjbpiinfaaDoorRows
import GoSem.ClaimSeven
namespace Go.Proofs.YtpicgjjbpiinfaaDoor
namespace Rows

/-- THE TIED CARD OF 'weirlaw09.BlockLittle'. -/
def blockLittleCard : Claim7 := { stood := { row := blockLittleRow, standIns := [], harness := (true, "08da237c0f024b895dcd4e0508f1effe41d70d4f8320994df2270c87d439e300"), looks := true }, kinds := [], alts := [], laidByText := true, laidKinds := [.data], laidTests := true, laidLooks := .later }
def BlockLittleCardSaid : Prop := Claim7.holds Tryd.pinned (.plain (OpenSpec.ofChange blockLittleSpec)) blockLittleCard

/-- THE TIED CARD OF 'weirlaw09.BlockUnValues'. -/
def blockUnValuesCard : Claim7 := { stood := { row := blockUnValuesRow, standIns := [], harness := (true, "08da237c0f024b895dcd4e0508f1effe41d70d4f8320994df2270c87d439e300"), looks := true }, kinds := [], alts := [], laidByText := true, laidKinds := [.handle, .data], laidTests := true, laidLooks := .later }
def BlockUnValuesCardSaid : Prop := Claim7.holds Tryd.pinned (.plain (OpenSpec.ofChange blockUnValuesSpec)) blockUnValuesCard

/-- THE TIED CARD OF 'weirlaw09.BlockBack'. -/
def blockBackCard : Claim7 := { stood := { row := blockBackRow, standIns := [], harness := (true, "08da237c0f024b895dcd4e0508f1effe41d70d4f8320994df2270c87d439e300"), looks := true }, kinds := [], alts := [], laidByText := true, laidKinds := [.data], laidTests := true, laidLooks := .later }
def BlockBackCardSaid : Prop := Claim7.holds Tryd.pinned (.plain (OpenSpec.ofChange blockBackSpec)) blockBackCard

/-- THE TIED CARD OF 'weirlaw09.BlockOnly'. -/
def blockOnlyCard : Claim7 := { stood := { row := blockOnlyRow, standIns := [], harness := (true, "08da237c0f024b895dcd4e0508f1effe41d70d4f8320994df2270c87d439e300"), looks := true }, kinds := [], alts := [], laidByText := true, laidKinds := [.data], laidTests := true, laidLooks := .later }
def BlockOnlyCardSaid : Prop := Claim7.holds Tryd.pinned (.plain (OpenSpec.ofChange blockOnlySpec)) blockOnlyCard

/-- THE SECOND FORM's CARD OF 'weirlaw09.BlockLittle'. -/
def blockLittleUptoCard : Claim7 := { stood := { row := blockLittleUptoRow, standIns := [], harness := (true, "08da237c0f024b895dcd4e0508f1effe41d70d4f8320994df2270c87d439e300"), looks := true }, kinds := [], alts := [], laidByText := true, laidKinds := [.data], laidTests := true, laidLooks := .later }
def BlockLittleUptoCardSaid : Prop := Claim7.holds Tryd.pinned (.plain (OpenSpec.upto blockLittleSpec)) blockLittleUptoCard

/-- THE SECOND FORM's CARD OF 'weirlaw09.BlockUnValues'. -/
def blockUnValuesUptoCard : Claim7 := { stood := { row := blockUnValuesUptoRow, standIns := [], harness := (true, "08da237c0f024b895dcd4e0508f1effe41d70d4f8320994df2270c87d439e300"), looks := true }, kinds := [], alts := [], laidByText := true, laidKinds := [.handle, .data], laidTests := true, laidLooks := .later }
def BlockUnValuesUptoCardSaid : Prop := Claim7.holds Tryd.pinned (.plain (OpenSpec.upto blockUnValuesSpec)) blockUnValuesUptoCard

/-- THE SECOND FORM's CARD OF 'weirlaw09.BlockBack'. -/
def blockBackUptoCard : Claim7 := { stood := { row := blockBackUptoRow, standIns := [], harness := (true, "08da237c0f024b895dcd4e0508f1effe41d70d4f8320994df2270c87d439e300"), looks := true }, kinds := [], alts := [], laidByText := true, laidKinds := [.data], laidTests := true, laidLooks := .later }
def BlockBackUptoCardSaid : Prop := Claim7.holds Tryd.pinned (.plain (OpenSpec.upto blockBackSpec)) blockBackUptoCard

/-- THE SECOND FORM's CARD OF 'weirlaw09.BlockOnly'. -/
def blockOnlyUptoCard : Claim7 := { stood := { row := blockOnlyUptoRow, standIns := [], harness := (true, "08da237c0f024b895dcd4e0508f1effe41d70d4f8320994df2270c87d439e300"), looks := true }, kinds := [], alts := [], laidByText := true, laidKinds := [.data], laidTests := true, laidLooks := .later }
def BlockOnlyUptoCardSaid : Prop := Claim7.holds Tryd.pinned (.plain (OpenSpec.upto blockOnlySpec)) blockOnlyUptoCard
end Rows
end Go.Proofs.YtpicgjjbpiinfaaDoor
