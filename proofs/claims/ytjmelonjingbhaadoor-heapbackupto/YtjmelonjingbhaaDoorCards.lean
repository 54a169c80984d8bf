/-
  DERIVED. GIVEN WITH THE SEED: THE CARDS: each row of YtjmelonjingbhaaDoorRows.lean that lists a variable, with what it lists TIED to the program's text (the seventh form; the later family's looks); each row that meets fmt, with fmt's text TOLD by the authors' own Lean function (tested against real Go, not proved from fmt's source: count such statements apart). THE CARD IS WHAT COUNTS. Prove the row's statement (the work); the ties are given (YtjmelonjingbhaaDoorTie.lean); close each card by the builder's one call (the guide's Derived/Test/ToyasCard.lean, 'card_holds'). Laid BY PROGRAM, IN A SANDBOX (cutbox-door.mjs). By AI agents, Wed Nov 11 2026. No macro, syntax, notation, axiom, sorry.
-/
import Derived.Test.YtjmelonjingbhaaDoorRows
import GoSem.ClaimSeven
namespace Go.Proofs.YtjmelonjingbhaaDoor
namespace Rows

/-- THE TIED CARD OF 'weirlaw21.HeapBack'. -/
def heapBackCard : Claim7 := { stood := { row := heapBackRow, standIns := [], harness := (true, "a3b5c7ddd4da4c2fdbbb36fc47cf054e8aa257f23aeff0a8209fff6dc9d5e3dd"), looks := true }, kinds := [], alts := [], laidByText := true, laidKinds := [.handle], laidTests := true, laidLooks := .later }
def HeapBackCardSaid : Prop := Claim7.holds Tryd.pinned (.plain (OpenSpec.ofChange heapBackSpec)) heapBackCard

/-- THE SECOND FORM's CARD OF 'weirlaw21.HeapBack'. -/
def heapBackUptoCard : Claim7 := { stood := { row := heapBackUptoRow, standIns := [], harness := (true, "a3b5c7ddd4da4c2fdbbb36fc47cf054e8aa257f23aeff0a8209fff6dc9d5e3dd"), looks := true }, kinds := [], alts := [], laidByText := true, laidKinds := [.handle], laidTests := true, laidLooks := .later }
def HeapBackUptoCardSaid : Prop := Claim7.holds Tryd.pinned (.plain (OpenSpec.upto heapBackSpec)) heapBackUptoCard
end Rows
end Go.Proofs.YtjmelonjingbhaaDoor
