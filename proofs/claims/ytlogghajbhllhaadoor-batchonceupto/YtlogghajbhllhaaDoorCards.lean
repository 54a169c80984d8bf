/-
  DERIVED. GIVEN WITH THE SEED: THE CARDS: each row of YtlogghajbhllhaaDoorRows.lean that lists a variable, with what it lists TIED to the program's text (the seventh form; the later family's looks); each row that meets fmt, with fmt's text TOLD by the authors' own Lean function (tested against real Go, not proved from fmt's source: count such statements apart). THE CARD IS WHAT COUNTS. Prove the row's statement (the work); the ties are given (YtlogghajbhllhaaDoorTie.lean); close each card by the builder's one call (the guide's Derived/Test/ToyasCard.lean, 'card_holds'). Laid BY PROGRAM, IN A SANDBOX (cutbox-door.mjs). By AI agents, Wed Nov 11 2026. No macro, syntax, notation, axiom, sorry.
-/
import Derived.Test.YtlogghajbhllhaaDoorRows
import GoSem.ClaimSeven
namespace Go.Proofs.YtlogghajbhllhaaDoor
namespace Rows

/-- THE TIED CARD OF 'weirlaw07.BatchOrders'. -/
def batchOrdersCard : Claim7 := { stood := { row := batchOrdersRow, standIns := [], harness := (true, "86e333f830f73d10397057422183733dac98fec36090b0b831a5af4128a76115"), looks := true }, kinds := [], alts := [], laidByText := true, laidKinds := [.data, .handle, .pinned], laidTests := true, laidLooks := .later }
def BatchOrdersCardSaid : Prop := Claim7.holds Tryd.pinned (.plain (OpenSpec.ofChange batchOrdersSpec)) batchOrdersCard

/-- THE TIED CARD OF 'weirlaw07.BatchOnce'. -/
def batchOnceCard : Claim7 := { stood := { row := batchOnceRow, standIns := [], harness := (true, "86e333f830f73d10397057422183733dac98fec36090b0b831a5af4128a76115"), looks := true }, kinds := [], alts := [], laidByText := true, laidKinds := [.data, .handle, .pinned], laidTests := true, laidLooks := .later }
def BatchOnceCardSaid : Prop := Claim7.holds Tryd.pinned (.plain (OpenSpec.ofChange batchOnceSpec)) batchOnceCard

/-- THE SECOND FORM's CARD OF 'weirlaw07.BatchOrders'. -/
def batchOrdersUptoCard : Claim7 := { stood := { row := batchOrdersUptoRow, standIns := [], harness := (true, "86e333f830f73d10397057422183733dac98fec36090b0b831a5af4128a76115"), looks := true }, kinds := [], alts := [], laidByText := true, laidKinds := [.data, .handle, .pinned], laidTests := true, laidLooks := .later }
def BatchOrdersUptoCardSaid : Prop := Claim7.holds Tryd.pinned (.plain (OpenSpec.upto batchOrdersSpec)) batchOrdersUptoCard

/-- THE SECOND FORM's CARD OF 'weirlaw07.BatchOnce'. -/
def batchOnceUptoCard : Claim7 := { stood := { row := batchOnceUptoRow, standIns := [], harness := (true, "86e333f830f73d10397057422183733dac98fec36090b0b831a5af4128a76115"), looks := true }, kinds := [], alts := [], laidByText := true, laidKinds := [.data, .handle, .pinned], laidTests := true, laidLooks := .later }
def BatchOnceUptoCardSaid : Prop := Claim7.holds Tryd.pinned (.plain (OpenSpec.upto batchOnceSpec)) batchOnceUptoCard
end Rows
end Go.Proofs.YtlogghajbhllhaaDoor
