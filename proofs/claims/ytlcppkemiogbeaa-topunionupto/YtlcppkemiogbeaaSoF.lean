
import Derived.Test.YtlcppkemiogbeaaSoE
import Derived.WalkKit
import Derived.BigQuiet
import Derived.BigRegion
import Derived.LoopTactic
import Derived.Below
import Derived.Deep.RegionHeld3
import Derived.WalkLawsBesides
namespace Go.Proofs.Ytlcppkemiogbeaa.So
open Go.RowKit
set_option linter.unusedVariables false
set_option linter.unusedSimpArgs false
theorem OB.drew {b : Nat} {w w' : World} (h : OB b w w') : OB b w w'.drew := ⟨h.size, h.keep, h.same⟩
end Go.Proofs.Ytlcppkemiogbeaa.So
