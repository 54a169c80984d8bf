
import Derived.Test.YtbojljmacheccaaGreatDoorLaH
import Derived.Test.YtbojljmacheccaaGreatDoorLaA
import Derived.Test.YtbojljmacheccaaGreatDoorLaD
namespace Go.Proofs.YtbojljmacheccaaGreatDoor.Ln
open Go.RowKit Go.Shelf
attribute [local go_sem] Oper.semAt_some
set_option linter.unusedVariables false
set_option linter.unusedSimpArgs false
set_option maxRecDepth 100000
/-- the reader's three cells that a piece reads. -/
theorem RdE.cells {N : Nat} {s : ByteArray} {k : Nat} {W : World} (h : RdE N s (k, none) W) : W.cell? ⟨N, 0, none⟩ = some (.string s) ∧ W.cell? ⟨N, 1, none⟩ = some (.int .i64 (k : Int)) ∧ W.cell? ⟨N, 2, none⟩ = some (.int .i64 0) ∧ W.frozen? ⟨N, 1, none⟩ = false := ⟨h.2.1.1, h.2.1.2.1, h.2.1.2.2.1, h.2.2 1 (by omega)⟩
end Go.Proofs.YtbojljmacheccaaGreatDoor.Ln
