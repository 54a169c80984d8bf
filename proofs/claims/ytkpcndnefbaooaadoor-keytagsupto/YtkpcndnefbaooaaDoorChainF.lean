
import Derived.Test.YtkpcndnefbaooaaDoorAsM
import Derived.Test.YtkpcndnefbaooaaDoorBase
namespace Go.Proofs.YtkpcndnefbaooaaDoor
open Go.RowKit Go.Extern.Stop Go.Stop Go.Extern
set_option linter.unusedVariables false

/-- the first link of a kind, and what it wraps. -/
def findK (k : Bool) : List (Bool × Int) → Option (Int × List (Bool × Int))
  | [] => none
  | (j, n) :: l => if j = k then some (n, l) else findK k l
end Go.Proofs.YtkpcndnefbaooaaDoor

