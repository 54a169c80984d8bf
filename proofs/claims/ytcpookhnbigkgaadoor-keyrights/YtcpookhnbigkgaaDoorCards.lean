/-
  DERIVED. GIVEN WITH THE SEED: THE CARDS: each row of YtcpookhnbigkgaaDoorRows.lean that lists a variable, with what it lists TIED to the program's text (the seventh form; the later family's looks); each row that meets fmt, with fmt's text TOLD by the authors' own Lean function (tested against real Go, not proved from fmt's source: count such statements apart). THE CARD IS WHAT COUNTS. Prove the row's statement (the work); the ties are given (YtcpookhnbigkgaaDoorTie.lean); close each card by the builder's one call (the guide's Derived/Test/ToyasCard.lean, 'card_holds'). Laid BY PROGRAM, IN A SANDBOX (cutbox-door.mjs). By AI agents, Wed Nov 11 2026. No macro, syntax, notation, axiom, sorry.
-/
import Derived.Test.YtcpookhnbigkgaaDoorRows
import GoSem.ClaimSeven
namespace Go.Proofs.YtcpookhnbigkgaaDoor
namespace Rows

/-- THE TIED CARD OF 'weirlaw05.KeyRights'. -/
def keyRightsCard : Claim7 := { stood := { row := keyRightsRow, standIns := [], harness := (true, "af689c1b094d80e2c75fd5753d93ae77bdb6feaa2df0822104725deea295b68b"), looks := true }, kinds := [], alts := [], laidByText := true, laidKinds := [.data, .handle, .pinned], laidTests := true, laidLooks := .later }
def KeyRightsCardSaid : Prop := Claim7.holds Tryd.pinned (.plain (OpenSpec.ofChange keyRightsSpec)) keyRightsCard

/-- THE TIED CARD OF 'weirlaw05.KeyBack'. -/
def keyBackCard : Claim7 := { stood := { row := keyBackRow, standIns := [], harness := (true, "af689c1b094d80e2c75fd5753d93ae77bdb6feaa2df0822104725deea295b68b"), looks := true }, kinds := [], alts := [], laidByText := true, laidKinds := [.data, .handle, .pinned], laidTests := true, laidLooks := .later }
def KeyBackCardSaid : Prop := Claim7.holds Tryd.pinned (.plain (OpenSpec.ofChange keyBackSpec)) keyBackCard

/-- THE SECOND FORM's CARD OF 'weirlaw05.KeyRights'. -/
def keyRightsUptoCard : Claim7 := { stood := { row := keyRightsUptoRow, standIns := [], harness := (true, "af689c1b094d80e2c75fd5753d93ae77bdb6feaa2df0822104725deea295b68b"), looks := true }, kinds := [], alts := [], laidByText := true, laidKinds := [.data, .handle, .pinned], laidTests := true, laidLooks := .later }
def KeyRightsUptoCardSaid : Prop := Claim7.holds Tryd.pinned (.plain (OpenSpec.upto keyRightsSpec)) keyRightsUptoCard

/-- THE SECOND FORM's CARD OF 'weirlaw05.KeyBack'. -/
def keyBackUptoCard : Claim7 := { stood := { row := keyBackUptoRow, standIns := [], harness := (true, "af689c1b094d80e2c75fd5753d93ae77bdb6feaa2df0822104725deea295b68b"), looks := true }, kinds := [], alts := [], laidByText := true, laidKinds := [.data, .handle, .pinned], laidTests := true, laidLooks := .later }
def KeyBackUptoCardSaid : Prop := Claim7.holds Tryd.pinned (.plain (OpenSpec.upto keyBackSpec)) keyBackUptoCard
end Rows
end Go.Proofs.YtcpookhnbigkgaaDoor
