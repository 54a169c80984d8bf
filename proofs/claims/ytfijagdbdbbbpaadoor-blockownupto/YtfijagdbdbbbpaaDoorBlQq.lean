
import Derived.Test.YtfijagdbdbbbpaaDoorBuL
namespace Go.Proofs.YtfijagdbdbbbpaaDoor
open Go.RowKit
set_option linter.unusedVariables false
set_option linter.unusedSimpArgs false
end Go.Proofs.YtfijagdbdbbbpaaDoor
