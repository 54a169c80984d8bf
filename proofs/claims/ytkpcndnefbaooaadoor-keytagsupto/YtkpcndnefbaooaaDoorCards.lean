/-
  DERIVED. GIVEN WITH THE SEED: THE CARDS: each row of YtkpcndnefbaooaaDoorRows.lean that lists a variable, with what it lists TIED to the program's text (the seventh form; the later family's looks); each row that meets fmt, with fmt's text TOLD by the authors' own Lean function (tested against real Go, not proved from fmt's source: count such statements apart). THE CARD IS WHAT COUNTS. Prove the row's statement (the work); the ties are given (YtkpcndnefbaooaaDoorTie.lean); close each card by the builder's one call (the guide's Derived/Test/ToyasCard.lean, 'card_holds'). Laid BY PROGRAM, IN A SANDBOX (cutbox-door.mjs). By AI agents, Wed Nov 11 2026. No macro, syntax, notation, axiom, sorry.
-/
import Derived.Test.YtkpcndnefbaooaaDoorRows
import GoSem.ClaimSeven
namespace Go.Proofs.YtkpcndnefbaooaaDoor
namespace Rows

/-- THE TIED CARD OF 'weirlaw05.KeyTags'. -/
def keyTagsCard : Claim7 := { stood := { row := keyTagsRow, standIns := [], harness := (true, "4a416a0d0874925440deba6ee3f6a6ba475cf1f724add6b3330fe569191c93a3"), looks := true }, kinds := [], alts := [], laidByText := true, laidKinds := [.data, .handle, .pinned], laidTests := true, laidLooks := .later }
def KeyTagsCardSaid : Prop := Claim7.holds Tryd.pinned (.plain (OpenSpec.ofChange keyTagsSpec)) keyTagsCard

/-- THE TIED CARD OF 'weirlaw05.KeyJoins'. -/
def keyJoinsCard : Claim7 := { stood := { row := keyJoinsRow, standIns := [], harness := (true, "4a416a0d0874925440deba6ee3f6a6ba475cf1f724add6b3330fe569191c93a3"), looks := true }, kinds := [], alts := [], laidByText := true, laidKinds := [.data, .handle, .pinned], laidTests := true, laidLooks := .later }
def KeyJoinsCardSaid : Prop := Claim7.holds Tryd.pinned (.plain (OpenSpec.ofChange keyJoinsSpec)) keyJoinsCard

/-- THE SECOND FORM's CARD OF 'weirlaw05.KeyTags'. -/
def keyTagsUptoCard : Claim7 := { stood := { row := keyTagsUptoRow, standIns := [], harness := (true, "4a416a0d0874925440deba6ee3f6a6ba475cf1f724add6b3330fe569191c93a3"), looks := true }, kinds := [], alts := [], laidByText := true, laidKinds := [.data, .handle, .pinned], laidTests := true, laidLooks := .later }
def KeyTagsUptoCardSaid : Prop := Claim7.holds Tryd.pinned (.plain (OpenSpec.upto keyTagsSpec)) keyTagsUptoCard

/-- THE SECOND FORM's CARD OF 'weirlaw05.KeyJoins'. -/
def keyJoinsUptoCard : Claim7 := { stood := { row := keyJoinsUptoRow, standIns := [], harness := (true, "4a416a0d0874925440deba6ee3f6a6ba475cf1f724add6b3330fe569191c93a3"), looks := true }, kinds := [], alts := [], laidByText := true, laidKinds := [.data, .handle, .pinned], laidTests := true, laidLooks := .later }
def KeyJoinsUptoCardSaid : Prop := Claim7.holds Tryd.pinned (.plain (OpenSpec.upto keyJoinsSpec)) keyJoinsUptoCard
end Rows
end Go.Proofs.YtkpcndnefbaooaaDoor
