/-
  DERIVED. GIVEN WITH THE SEED: THE CARDS: each row of YtpilohnlkckpfaaDoorRows.lean that lists a variable, with what it lists TIED to the program's text (the seventh form; the later family's looks); each row that meets fmt, with fmt's text TOLD by the authors' own Lean function (tested against real Go, not proved from fmt's source: count such statements apart). THE CARD IS WHAT COUNTS. Prove the row's statement (the work); the ties are given (YtpilohnlkckpfaaDoorTie.lean); close each card by the builder's one call (the guide's Derived/Test/ToyasCard.lean, 'card_holds'). Laid BY PROGRAM, IN A SANDBOX (cutbox-door.mjs). By AI agents, Wed Nov 11 2026. No macro, syntax, notation, axiom, sorry.
-/
import Derived.Test.YtpilohnlkckpfaaDoorRows
import GoSem.ClaimSeven
namespace Go.Proofs.YtpilohnlkckpfaaDoor
namespace Rows

/-- THE TIED CARD OF 'weirlaw05.KeyCompares'. -/
def keyComparesCard : Claim7 := { stood := { row := keyComparesRow, standIns := [], harness := (true, "6811f64de3e0a77e799a6f8a7650f7b5dfd7117358e769c46f4464c74d6ed472"), looks := true }, kinds := [], alts := [], laidByText := true, laidKinds := [.data, .handle, .pinned], laidTests := true, laidLooks := .later }
def KeyComparesCardSaid : Prop := Claim7.holds Tryd.pinned (.plain (OpenSpec.ofChange keyComparesSpec)) keyComparesCard

/-- THE TIED CARD OF 'weirlaw05.KeyOrder'. -/
def keyOrderCard : Claim7 := { stood := { row := keyOrderRow, standIns := [], harness := (true, "6811f64de3e0a77e799a6f8a7650f7b5dfd7117358e769c46f4464c74d6ed472"), looks := true }, kinds := [], alts := [], laidByText := true, laidKinds := [.data, .handle, .pinned], laidTests := true, laidLooks := .later }
def KeyOrderCardSaid : Prop := Claim7.holds Tryd.pinned (.plain (OpenSpec.ofChange keyOrderSpec)) keyOrderCard

/-- THE TIED CARD OF 'weirlaw05.KeyEscapes'. -/
def keyEscapesCard : Claim7 := { stood := { row := keyEscapesRow, standIns := [], harness := (true, "6811f64de3e0a77e799a6f8a7650f7b5dfd7117358e769c46f4464c74d6ed472"), looks := true }, kinds := [], alts := [], laidByText := true, laidKinds := [.data, .handle, .pinned], laidTests := true, laidLooks := .later }
def KeyEscapesCardSaid : Prop := Claim7.holds Tryd.pinned (.plain (OpenSpec.ofChange keyEscapesSpec)) keyEscapesCard

/-- THE TIED CARD OF 'weirlaw05.KeyUnescapes'. -/
def keyUnescapesCard : Claim7 := { stood := { row := keyUnescapesRow, standIns := [], harness := (true, "6811f64de3e0a77e799a6f8a7650f7b5dfd7117358e769c46f4464c74d6ed472"), looks := true }, kinds := [], alts := [], laidByText := true, laidKinds := [.data, .handle, .pinned], laidTests := true, laidLooks := .later }
def KeyUnescapesCardSaid : Prop := Claim7.holds Tryd.pinned (.plain (OpenSpec.ofChange keyUnescapesSpec)) keyUnescapesCard

/-- THE TIED CARD OF 'weirlaw05.KeyPrints'. -/
def keyPrintsCard : Claim7 := { stood := { row := keyPrintsRow, standIns := [], harness := (true, "6811f64de3e0a77e799a6f8a7650f7b5dfd7117358e769c46f4464c74d6ed472"), looks := true }, kinds := [], alts := [], laidByText := true, laidKinds := [.data, .handle, .pinned], laidTests := true, laidLooks := .later }
def KeyPrintsCardSaid : Prop := Claim7.holds Tryd.pinned (.plain (OpenSpec.ofChange keyPrintsSpec)) keyPrintsCard

/-- THE SECOND FORM's CARD OF 'weirlaw05.KeyCompares'. -/
def keyComparesUptoCard : Claim7 := { stood := { row := keyComparesUptoRow, standIns := [], harness := (true, "6811f64de3e0a77e799a6f8a7650f7b5dfd7117358e769c46f4464c74d6ed472"), looks := true }, kinds := [], alts := [], laidByText := true, laidKinds := [.data, .handle, .pinned], laidTests := true, laidLooks := .later }
def KeyComparesUptoCardSaid : Prop := Claim7.holds Tryd.pinned (.plain (OpenSpec.upto keyComparesSpec)) keyComparesUptoCard

/-- THE SECOND FORM's CARD OF 'weirlaw05.KeyOrder'. -/
def keyOrderUptoCard : Claim7 := { stood := { row := keyOrderUptoRow, standIns := [], harness := (true, "6811f64de3e0a77e799a6f8a7650f7b5dfd7117358e769c46f4464c74d6ed472"), looks := true }, kinds := [], alts := [], laidByText := true, laidKinds := [.data, .handle, .pinned], laidTests := true, laidLooks := .later }
def KeyOrderUptoCardSaid : Prop := Claim7.holds Tryd.pinned (.plain (OpenSpec.upto keyOrderSpec)) keyOrderUptoCard

/-- THE SECOND FORM's CARD OF 'weirlaw05.KeyEscapes'. -/
def keyEscapesUptoCard : Claim7 := { stood := { row := keyEscapesUptoRow, standIns := [], harness := (true, "6811f64de3e0a77e799a6f8a7650f7b5dfd7117358e769c46f4464c74d6ed472"), looks := true }, kinds := [], alts := [], laidByText := true, laidKinds := [.data, .handle, .pinned], laidTests := true, laidLooks := .later }
def KeyEscapesUptoCardSaid : Prop := Claim7.holds Tryd.pinned (.plain (OpenSpec.upto keyEscapesSpec)) keyEscapesUptoCard

/-- THE SECOND FORM's CARD OF 'weirlaw05.KeyUnescapes'. -/
def keyUnescapesUptoCard : Claim7 := { stood := { row := keyUnescapesUptoRow, standIns := [], harness := (true, "6811f64de3e0a77e799a6f8a7650f7b5dfd7117358e769c46f4464c74d6ed472"), looks := true }, kinds := [], alts := [], laidByText := true, laidKinds := [.data, .handle, .pinned], laidTests := true, laidLooks := .later }
def KeyUnescapesUptoCardSaid : Prop := Claim7.holds Tryd.pinned (.plain (OpenSpec.upto keyUnescapesSpec)) keyUnescapesUptoCard

/-- THE SECOND FORM's CARD OF 'weirlaw05.KeyPrints'. -/
def keyPrintsUptoCard : Claim7 := { stood := { row := keyPrintsUptoRow, standIns := [], harness := (true, "6811f64de3e0a77e799a6f8a7650f7b5dfd7117358e769c46f4464c74d6ed472"), looks := true }, kinds := [], alts := [], laidByText := true, laidKinds := [.data, .handle, .pinned], laidTests := true, laidLooks := .later }
def KeyPrintsUptoCardSaid : Prop := Claim7.holds Tryd.pinned (.plain (OpenSpec.upto keyPrintsSpec)) keyPrintsUptoCard
end Rows
end Go.Proofs.YtpilohnlkckpfaaDoor
