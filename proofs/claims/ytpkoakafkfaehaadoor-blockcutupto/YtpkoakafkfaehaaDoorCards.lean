/-
  DERIVED. GIVEN WITH THE SEED: THE CARDS: each row of YtpkoakafkfaehaaDoorRows.lean that lists a variable, with what it lists TIED to the program's text (the seventh form; the later family's looks); each row that meets fmt, with fmt's text TOLD by the authors' own Lean function (tested against real Go, not proved from fmt's source: count such statements apart). THE CARD IS WHAT COUNTS. Prove the row's statement (the work); the ties are given (YtpkoakafkfaehaaDoorTie.lean); close each card by the builder's one call (the guide's Derived/Test/ToyasCard.lean, 'card_holds'). Laid BY PROGRAM, IN A SANDBOX (cutbox-door.mjs). By AI agents, Wed Nov 11 2026. No macro, syntax, notation, axiom, sorry.
-/
import Derived.Test.YtpkoakafkfaehaaDoorRows
import GoSem.ClaimSeven
namespace Go.Proofs.YtpkoakafkfaehaaDoor
namespace Rows

/-- THE TIED CARD OF 'weirlaw09.BlockCut'. -/
def blockCutCard : Claim7 := { stood := { row := blockCutRow, standIns := [], harness := (true, "f7a1fefbb3b9b4d553010d0f8808d014e9bbd53118d43e5677689e48ae407f04"), looks := false }, kinds := [], alts := [], laidByText := true, laidKinds := [.data], laidTests := true, laidLooks := .later }
def BlockCutCardSaid : Prop := Claim7.holds Tryd.pinned (.plain (OpenSpec.ofChange blockCutSpec)) blockCutCard

/-- THE TIED CARD OF 'weirlaw09.BlockOwn'. -/
def blockOwnCard : Claim7 := { stood := { row := blockOwnRow, standIns := [], harness := (true, "f7a1fefbb3b9b4d553010d0f8808d014e9bbd53118d43e5677689e48ae407f04"), looks := false }, kinds := [], alts := [], laidByText := true, laidKinds := [.data], laidTests := true, laidLooks := .later }
def BlockOwnCardSaid : Prop := Claim7.holds Tryd.pinned (.plain (OpenSpec.ofChange blockOwnSpec)) blockOwnCard

/-- THE SECOND FORM's CARD OF 'weirlaw09.BlockCut'. -/
def blockCutUptoCard : Claim7 := { stood := { row := blockCutUptoRow, standIns := [], harness := (true, "f7a1fefbb3b9b4d553010d0f8808d014e9bbd53118d43e5677689e48ae407f04"), looks := false }, kinds := [], alts := [], laidByText := true, laidKinds := [.data], laidTests := true, laidLooks := .later }
def BlockCutUptoCardSaid : Prop := Claim7.holds Tryd.pinned (.plain (OpenSpec.upto blockCutSpec)) blockCutUptoCard

/-- THE SECOND FORM's CARD OF 'weirlaw09.BlockOwn'. -/
def blockOwnUptoCard : Claim7 := { stood := { row := blockOwnUptoRow, standIns := [], harness := (true, "f7a1fefbb3b9b4d553010d0f8808d014e9bbd53118d43e5677689e48ae407f04"), looks := false }, kinds := [], alts := [], laidByText := true, laidKinds := [.data], laidTests := true, laidLooks := .later }
def BlockOwnUptoCardSaid : Prop := Claim7.holds Tryd.pinned (.plain (OpenSpec.upto blockOwnSpec)) blockOwnUptoCard
end Rows
end Go.Proofs.YtpkoakafkfaehaaDoor
